/- FdCmp FdKeys FdPick FdOf PkDocParse PackTells -/
import Derived.Test.YtdegffffcbhjbaaGreatDoorQ42
section
namespace Go.Proofs.YtdegffffcbhjbaaGreatDoor.Fa
open Go.RowKit
theorem less_iff:∀ (x y:List UInt8),Op.bytesLess x y=decide (Lib.compareBytes x y < 0)
 | [],[]=>by simp [Lib.compareBytes,Op.bytesLess]
 | [],_::_=>by simp [Lib.compareBytes,Op.bytesLess]
 | _::_,[]=>by simp [Lib.compareBytes,Op.bytesLess]
 | a::x,b::y=>by
   have ih:=less_iff x y
   unfold Lib.compareBytes Op.bytesLess
   by_cases h1:a < b
   ·simp [h1]
   ·by_cases h2:b < a
    ·have:(a==b)=false:=by
      rw [beq_eq_false_iff_ne]
      rintro rfl
      exact h1 h2
     simp [h1,h2,this]
    ·have:a=b:=by
      rw [UInt8.lt_iff_toNat_lt] at h1 h2
      exact UInt8.toNat_inj.1 (by omega)
     subst this
     simp [h1,ih]
theorem cmpL_bnd:∀ (x y:List UInt8),-1≤Lib.compareBytes x y∧Lib.compareBytes x y≤1
 | [],[]=>by simp [Lib.compareBytes]
 | [],_::_=>by simp [Lib.compareBytes]
 | _::_,[]=>by simp [Lib.compareBytes]
 | a::x,b::y=>by
   have ih:=cmpL_bnd x y
   unfold Lib.compareBytes
   (repeat' split) <;> omega
set_option maxHeartbeats 1000000 in
theorem rtext_any (a b:ByteArray) (w:World):Calls Tryz.prog 130 #[.string a,.string b] w fun e w'=>e=.returned (.int .i64 (cmpB a b))∧w'=w:=by
 have l1:Op.bytesLess a.toList b.toList=decide (cmpB a b < 0):=by rw [ByteArray.toList_eq,ByteArray.toList_eq];exact less_iff _ _
 have l2:(a.toList==b.toList)=decide (cmpB a b=0):=by
  rw [Bool.eq_iff_iff,beq_iff_eq,decide_eq_true_eq,isCmp_text.eq0]
  exact ⟨toList_inj,fun h=>by rw [h]⟩
 have hb:-1≤cmpB a b∧cmpB a b≤1:=cmpL_bnd _ _
 obtain ⟨c,hc⟩:∃ c,cmpB a b=c:=⟨_,rfl⟩
 rw [hc] at l1 l2 hb ⊢
 clear hc
 obtain rfl | rfl | rfl:c=-1∨c=0∨c=1:=by omega
 all_goals
  clear hb
  go_enter Tryz.func130,Tryz.ntmps130
  go_wp2
  go_ret
  exact ⟨rfl,rfl⟩
theorem four_new (w:World) (l:List Int) (t:TypeId) (a b c d:Int) (h:l=[a,b,c,d]) (i:Nat) (x:Int) (hx:l[i]?=some x):(w.alloc (.cells #[.int .i64 a,.int .i64 b,.int .i64 c,.int .i64 d] t)).cell? ⟨w.heap.size,i,none⟩=some (.int .i64 x):=by
 rw [cell_of_row _ w.heap.size i _ t (0,0) (heap_alloc_new w _)]
 subst h
 match i,hx with
 | 0,hx=>simp at hx;subst hx;rfl
 | 1,hx=>simp at hx;subst hx;rfl
 | 2,hx=>simp at hx;subst hx;rfl
 | 3,hx=>simp at hx;subst hx;rfl
theorem orL_four (x y:Key):cmpK x y=(if orL [cmpB x.e y.e,cmpB x.a y.a,cmpB x.f y.f,cmpB x.p y.p]=0 then cmpI x.m y.m else orL [cmpB x.e y.e,cmpB x.a y.a,cmpB x.f y.f,cmpB x.p y.p]):=by
 rw [←orL_key]
 simp only [orL]
 (repeat' split) <;> first | rfl | omega
set_option maxHeartbeats 4000000 in
set_option maxRecDepth 100000 in
theorem rcmp_any (x y:Key) (w:World) :
 Calls Tryz.prog 95 #[aggK x,aggK y] w fun e w'=>e=.returned (.int .i64 (cmpK x y))∧Below w.heap.size w w':=by
 obtain ⟨r,hr⟩:∃ r,cmpK x y=r:=⟨_,rfl⟩
 have hA:=orL_four x y
 rw [hr] at hA ⊢
 have HA:=Lib.hid hA
 clear hr hA
 obtain ⟨W1,hW1⟩:∃ W1,(w.alloc (.cells #[.string x.e,.string x.a,.string x.f,.string x.p,.int .i64 x.m] 51)).alloc (.cells #[.string y.e,.string y.a,.string y.f,.string y.p,.int .i64 y.m] 51)=W1:=⟨_,rfl⟩
 obtain ⟨W2,hW2⟩:∃ W2,W1.drew=W2:=⟨_,rfl⟩
 have bx:BoxE encK W2 w.heap.size 51 x:=by
  rw [←hW2,←hW1]
  have hb:=(Below.refl (w.alloc (.cells #[.string x.e,.string x.a,.string x.f,.string x.p,.int .i64 x.m] 51)).heap.size (w.alloc (.cells #[.string x.e,.string x.a,.string x.f,.string x.p,.int .i64 x.m] 51))).alloc (Nat.le_refl _) (.cells #[.string y.e,.string y.a,.string y.f,.string y.p,.int .i64 y.m] 51)
  exact (BoxE.new encK w x 51).kept ⟨hb.os,hb.tape,hb.output,hb.size,hb.block⟩
 have bY:BoxE encK W2 (w.heap.size+1) 51 y:=by
  rw [←hW2,←hW1]
  have:=BoxE.new encK (w.alloc (.cells #[.string x.e,.string x.a,.string x.f,.string x.p,.int .i64 x.m] 51)) y 51
  rw [World.size_alloc] at this
  exact this
 have HG:Hid (Below w.heap.size w W2):=Lib.hid (by
  rw [←hW2,←hW1]
  exact ((((Grew.refl w).alloc _).alloc _).drew).below)
 have HBX:=Lib.hid bx
 have HBY:=Lib.hid bY
 obtain ⟨k0,k1,k2,k3,k4⟩:=key5 bx.at0
 obtain ⟨j0,j1,j2,j3,j4⟩:=key5 bY.at0
 simp only [Nat.zero_add] at k0 k1 k2 k3 k4 j0 j1 j2 j3 j4
 clear bx bY
 obtain ⟨l,hl⟩:∃ l,[cmpB x.e y.e,cmpB x.a y.a,cmpB x.f y.f,cmpB x.p y.p]=l:=⟨_,rfl⟩
 have HL:Hid (l.length=4):=Lib.hid (by rw [←hl];rfl)
 have HNEW:=Lib.hid (four_new W2 l 3 _ _ _ _ hl.symm)
 rw [hl] at HA
 clear hl
 go_enter Tryz.func95,Tryz.ntmps95
 go_wp2_with fail
 refine wp_region_still_tail 20 (by kernel_rfl) (by kernel_rfl) ?_
 simp only [List.take_succ_cons,List.take_zero,List.drop_succ_cons,List.drop_zero]
 rw [show ({ heap:=W1.heap,tape:=W1.tape,drawn:=W1.drawn+1,os:=W1.os,output:=W1.output }:World)=W2 from hW2]
 clear hW1 hW2
 repeat still_step
 still_call (rtext_any _ _ _)
 repeat still_step
 still_call (rtext_any _ _ _)
 repeat still_step
 still_call (rtext_any _ _ _)
 repeat still_step
 still_call (rtext_any _ _ _)
 refine wpStill_nil ?_
 go_wp2_with fail
 obtain ⟨W3,hW3⟩:∃ W3,W2.alloc (.cells #[.int .i64 (cmpB x.e y.e),.int .i64 (cmpB x.a y.a),.int .i64 (cmpB x.f y.f),.int .i64 (cmpB x.p y.p)] 3)=W3:=⟨_,rfl⟩
 rw [hW3] at HNEW ⊢
 have hb3:Below W2.heap.size W2 W3:=by rw [←hW3];exact (Below.refl _ _).alloc (Nat.le_refl _) _
 have HG3:=Lib.hid (HG.out.trans (hb3.mono HG.out.size))
 obtain ⟨k0,k1,k2,k3,k4⟩:=key5 ((HBX.out.kept hb3).at0)
 obtain ⟨j0,j1,j2,j3,j4⟩:=key5 ((HBY.out.kept hb3).at0)
 simp only [Nat.zero_add] at k4 j4
 clear k0 k1 k2 k3 j0 j1 j2 j3 hb3 hW3 HBX HBY
 go_loop [6] (fun i=>∃ k:Nat,k≤4∧i=.int .i64 k∧Hid (orL (l.drop k)=orL l)) (fun i=>4 - (intOf i).toNat)
 case atStart=>exact ⟨0,Nat.zero_le _,rfl,Lib.hid rfl⟩
 case round =>
  obtain ⟨k,hk,rfl,HK⟩:=hrel
  by_cases hlt:k < 4
  ·obtain ⟨v,hv⟩:∃ x,l[k]?=some x:=⟨_,List.getElem?_eq_getElem (by rw [HL.out];exact hlt)⟩
   have c0:=HNEW.out k v hv
   have HS:=Lib.hid (orL_step l k v hv)
   clear hv
   by_cases h0:v=0
   ·subst h0
    go_wp2
    go_round
    case rel=>exact ⟨k+1,by omega,by go_num,by rw [←HK.out,HS.out,if_pos rfl];exact Lib.hid rfl⟩
    case measure=>simp [intOf];omega
   ·have hne:(v != 0)=true:=by simpa using h0
    obtain rfl:r=v:=by rw [HA.out,←HK.out,HS.out,if_neg h0,if_neg h0]
    go_wp2
    go_ret
    exact ⟨rfl,HG3.out⟩
  ·have e:l.drop k=[]:=List.drop_of_length_le (by rw [HL.out];omega)
   have hr0:r=cmpI x.m y.m:=by rw [HA.out,←HK.out,e];rfl
   have HR0:=Lib.hid hr0
   clear e hr0
   rcases Int.lt_trichotomy x.m y.m with h | h | h
   ·obtain rfl:r=-1:=by rw [HR0.out];unfold cmpI;rw [if_pos h]
    go_wp2
    go_ret
    exact ⟨rfl,HG3.out⟩
   ·obtain rfl:r=0:=by rw [HR0.out];unfold cmpI;rw [if_neg (by omega),if_neg (by omega)]
    have h1:¬ x.m < y.m:=by omega
    have h2:¬ y.m < x.m:=by omega
    clear h
    go_wp2
    go_ret
    exact ⟨rfl,HG3.out⟩
   ·obtain rfl:r=1:=by rw [HR0.out];unfold cmpI;rw [if_neg (by omega),if_pos h]
    have h1:¬ x.m < y.m:=by omega
    go_wp2
    go_ret
    exact ⟨rfl,HG3.out⟩
end Go.Proofs.YtdegffffcbhjbaaGreatDoor.Fa
end
section
namespace Go.Proofs.YtdegffffcbhjbaaGreatDoor.Fa
open Go.RowKit
theorem infoK:InfoE Tryz.prog 139 51 encK:=.of (z:=.agg #[.string ⟨#[]⟩,.string ⟨#[]⟩,.string ⟨#[]⟩,.string ⟨#[]⟩,.int .i64 0]) (n:=72) Tryz.underlying139 (by kernel_rfl) rfl (by decide)
theorem keysFrom_snoc (l:List Fact) (i:Nat) (x:Fact) (h:l[i]?=some x):keysFrom [] (l.take (i+1))=insU (keysFrom [] (l.take i)) x.key:=by
 rw [List.take_add_one,h]
 unfold keysFrom
 simp [List.foldl_append]
def MidU (A:List Key) (k:Key) (j:Nat) (N:List Key) (done:Bool):Prop:=insU A k=N++(if done=true then A.drop j else insU (A.drop j) k)
theorem midU_start (A:List Key) (k:Key):MidU A k 0 [] false:=by simp [MidU]
theorem drop_at {α:Type} {A:List α} {j:Nat} {a:α} (h:A[j]?=some a):A.drop j=a::A.drop (j+1):=by
 obtain ⟨hj,rfl⟩:=List.getElem?_eq_some_iff.1 h
 exact List.drop_eq_getElem_cons hj
theorem midU_done {A:List Key} {k a:Key} {j:Nat} {N:List Key} (h:MidU A k j N true) (ha:A[j]?=some a):MidU A k (j+1) (N++[a]) true:=by
 unfold MidU at *
 rw [h,if_pos rfl,if_pos rfl,drop_at ha];simp
theorem midU_eq {A:List Key} {k a:Key} {j:Nat} {N:List Key} (h:MidU A k j N false) (ha:A[j]?=some a) (e:k=a):MidU A k (j+1) (N++[a]) true:=by
 unfold MidU at *
 rw [h,if_neg (by simp),if_pos rfl,drop_at ha]
 conv=>lhs;unfold insU
 rw [if_pos e];simp
theorem midU_lt {A:List Key} {k a:Key} {j:Nat} {N:List Key} (h:MidU A k j N false) (ha:A[j]?=some a) (e:k≠a) (l:ltK k a):MidU A k (j+1) (N++[k]++[a]) true:=by
 unfold MidU at *
 rw [h,if_neg (by simp),if_pos rfl,drop_at ha]
 conv=>lhs;unfold insU
 rw [if_neg e,if_pos l];simp
theorem midU_gt {A:List Key} {k a:Key} {j:Nat} {N:List Key} (h:MidU A k j N false) (ha:A[j]?=some a) (e:k≠a) (l:¬ ltK k a):MidU A k (j+1) (N++[a]) false:=by
 unfold MidU at *
 rw [h,if_neg (by simp),if_neg (by simp),drop_at ha]
 conv=>lhs;unfold insU
 rw [if_neg e,if_neg l];simp
theorem midU_end1 {A:List Key} {k:Key} {j:Nat} {N:List Key} (h:MidU A k j N true) (hj:A.length≤j):insU A k=N:=by
 unfold MidU at h
 rw [h,if_pos rfl,List.drop_of_length_le hj,List.append_nil]
theorem midU_end0 {A:List Key} {k:Key} {j:Nat} {N:List Key} (h:MidU A k j N false) (hj:A.length≤j):insU A k=N++[k]:=by
 unfold MidU at h
 rw [h,if_neg (by simp),List.drop_of_length_le hj];rfl
theorem el_newK (w:World) (y:Key) (t:TypeId):ElAt encK (w.alloc (.cells (encK.cs y).toArray t)) w.heap.size 0 y:=el_new encK w y t
set_option maxRecDepth 100000 in
set_option maxHeartbeats 8000000 in
theorem rkeys_any (v:Value) (l:List Fact) (w:World) (h:FactsV w v l) (hL:l.length≤1000) :
 Calls Tryz.prog 58 #[v] w fun e w'=>∃ u,e=.returned u∧w'.ownsRow w.heap.size 51 5 u (keysL l).length (flat encK (keysL l))∧Below w.heap.size w w':=by
 have HV:=Lib.hid h
 obtain ⟨p,cp,rfl,hcap,hmx,_,_⟩:=h
 obtain ⟨n,hn⟩:∃ n,l.length=n:=⟨_,rfl⟩
 rw [hn] at hcap hL HV ⊢
 have HN:=Lib.hid hn
 unfold maxLen at hmx
 clear hn
 go_enter Tryz.func58,Tryz.ntmps58
 go_wp2
 go_loopw [3,4] (fun s3 s4 wr=>∃ i:Nat,s4=.int .i64 (i:Int)∧i≤n∧Hid (wr.ownsRow w.heap.size 51 5 s3 (keysFrom [] (l.take i)).length (flat encK (keysFrom [] (l.take i))))∧Hid (Below w.heap.size w wr)) (fun _ s4 _=>n - (intOf s4).toNat)
 case atStart=>exact ⟨0,rfl,Nat.zero_le _,World.ownsRow_nil _ _ _ _,Lib.hid (Below.refl _ _)⟩
 case round =>
  obtain ⟨i,rfl,hin,HO,HB⟩:=hrel
  rename World=>wa
  by_cases hlt:i < n
  ·obtain ⟨x,hx⟩:∃ x,l[i]?=some x:=⟨_,List.getElem?_eq_getElem (by rw [HN.out];exact hlt)⟩
   obtain ⟨b,o,rfl,hat⟩:=ElsV.at_ HV.out hx
   have HAT:=Lib.hid (hat.keep HB.out hat.lt)
   have HSN:=Lib.hid (keysFrom_snoc l i x hx)
   obtain ⟨A,hA⟩:∃ A,keysFrom [] (l.take i)=A:=⟨_,rfl⟩
   have hAL:A.length≤1000:=by
    rw [←hA]
    have:=keysFrom_length (l.take i) []
    rw [List.length_take] at this
    simp at this
    omega
   rw [hA] at HO HSN
   have HAL:=Lib.hid hAL
   have HE:=Lib.hid (els_of_own (E:=encK) HO.out)
   obtain ⟨pa,ca,rfl,_,_,_,_⟩:=id HE.out
   obtain ⟨na,hna⟩:∃ na,A.length=na:=⟨_,rfl⟩
   rw [hna] at HE hAL
   have HNA:=Lib.hid hna
   rw [hna]
   clear hx hat hA hna HO
   go_wp2
   go_loopw [5,6,7] (fun s5 s6 s7 wr=>∃ (j:Nat) (N:List Key) (d:Bool),s7=.int .i64 (j:Int)∧s6=.bool d∧j≤na∧N.length≤2 * j+1∧Hid (MidU A x.key j N d)∧Hid (wr.ownsRow wa.heap.size 51 5 s5 N.length (flat encK N))∧Hid (Below wa.heap.size wa wr)) (fun _ _ s7 _=>na - (intOf s7).toNat)
   case atStart=>exact ⟨0,[],false,rfl,rfl,Nat.zero_le _,by simp,midU_start A x.key,World.ownsRow_nil _ _ _ _,Lib.hid (Below.refl _ _)⟩
   case round =>
    obtain ⟨j,N,d,rfl,rfl,hj,hNl,HM,HO,HB2⟩:=hrel
    have HATr:=Lib.hid (HAT.out.keep HB2.out HAT.out.lt)
    by_cases hlt2:j < na
    ·obtain ⟨a,ha⟩:∃ a,A[j]?=some a:=⟨_,List.getElem?_eq_getElem (by rw [HNA.out];exact hlt2)⟩
     obtain ⟨b2,o2,rfl,hat2⟩:=ElsV.at_ HE.out ha
     have HAT2:=Lib.hid (hat2.keep HB2.out hat2.lt)
     have HAT0:=Lib.hid hat2
     obtain ⟨r0,r1,r2,r3,r4,r5⟩:=fact6 HATr.out
     obtain ⟨s0,s1,s2,s3,s4⟩:=key5 HAT2.out
     simp only [show encF.k=6 from rfl,show encK.k=5 from rfl] at r0 r1 r2 r3 r4 s0 s1 s2 s3 s4
     have q0:=fun p:Past wr=>cell_past r0 p
     have q1:=fun p:Past wr=>cell_past r1 p
     have q2:=fun p:Past wr=>cell_past r2 p
     have q3:=fun p:Past wr=>cell_past r3 p
     have q4:=fun p:Past wr=>cell_past r4 p
     have u0:=fun p:Past wr=>cell_past s0 p
     have u1:=fun p:Past wr=>cell_past s1 p
     have u2:=fun p:Past wr=>cell_past s2 p
     have u3:=fun p:Past wr=>cell_past s3 p
     have u4:=fun p:Past wr=>cell_past s4 p
     have HA:=Lib.hid ha
     have HCA:=Lib.hid (fun W=>rcmp_any x.key a W)
     obtain ⟨c,hc⟩:∃ c,cmpK x.key a=c:=⟨_,rfl⟩
     have HEQ:Hid (c=0 ↔ x.key=a):=Lib.hid (by rw [←hc];exact isCmp_key.eq0 _ _)
     have HLT:Hid (ltK x.key a ↔ c < 0):=Lib.hid (by rw [←hc];exact Iff.rfl)
     simp only [hc] at HCA
     clear ha hat2 r0 r1 r2 r3 r4 r5 s0 s1 s2 s3 s4 hc
     go_wp2_with fail
     refine wp_region_past (by kernel_rfl) (by kernel_rfl) ?_
     repeat (go_big_quiet_step ((go_at_call 95;exact Calls.past_of (HCA.out _))))
     refine wpQuiet_nil ?_
     intro w3 hw'
     obtain ⟨⟨_,hb3⟩,rfl⟩:=hw'
     have hO3:=row_below HO.out hb3
     have HO3:=Lib.hid hO3
     have HB3:=Lib.hid (HB2.out.trans (hb3.mono HB2.out.size))
     have HAT3:=Lib.hid (HATr.out.keep hb3 HATr.out.lt)
     have HA23:=Lib.hid (HAT2.out.keep hb3 HAT2.out.lt)
     obtain ⟨r0,r1,r2,r3,r4,r5⟩:=fact6 HAT3.out
     obtain ⟨s0,s1,s2,s3,s4⟩:=key5 HA23.out
     simp only [show encF.k=6 from rfl,show encK.k=5 from rfl] at r0 r1 r2 r3 r4 s0 s1 s2 s3 s4
     clear hO3 hb3 q0 q1 q2 q3 q4 u0 u1 u2 u3 u4 r5 HCA HATr HAT2 HO
     have HSZ3:Hid (wa.heap.size≤w3.heap.size):=Lib.hid HB3.out.size
     by_cases hc0:c=0
     ·subst hc0
      have HM1:Hid (MidU A x.key (j+1) (N++[a]) true):=Lib.hid (by
       cases d with
       | true=>exact midU_done HM.out HA.out
       | false=>exact midU_eq HM.out HA.out (HEQ.out.1 rfl))
      go_wp2_with (at_builtin;refine wpList_append_el (E:=encK) rfl _ _ 139 51 rfl infoK wa.heap.size N a w3.heap.size (HO3.out.alloc _) rfl (el_newK w3 a _) (by have:=HSZ3.out;simp;omega) (by omega) ?_;intro v9 w9 hr9 hb9 hg9)
      have HR9:=Lib.hid hr9
      have HB9:=Lib.hid ((HB3.out.alloc HSZ3.out _).trans hb9)
      clear hr9 hb9 hg9
      go_wp2
      go_roundw
      case rel=>exact ⟨j+1,N++[a],true,by go_num,rfl,by omega,by simp;omega,HM1,HR9,HB9⟩
      case measure=>simp [intOf];omega
     ·have hc1:(c==0)=false:=by rw [beq_eq_false_iff_ne];exact hc0
      have hne:x.key≠a:=fun e=>hc0 (HEQ.out.2 e)
      cases d with
      | true =>
        have HM1:=Lib.hid (midU_done HM.out HA.out)
        clear hne
        by_cases hlt3:c < 0
        ·go_wp2_with (at_builtin;refine wpList_append_el (E:=encK) rfl _ _ 139 51 rfl infoK wa.heap.size N a w3.heap.size (HO3.out.alloc _) rfl (el_newK w3 a _) (by have:=HSZ3.out;simp;omega) (by omega) ?_;intro v9 w9 hr9 hb9 hg9)
         have HR9:=Lib.hid hr9
         have HB9:=Lib.hid ((HB3.out.alloc HSZ3.out _).trans hb9)
         clear hr9 hb9 hg9
         go_wp2
         go_roundw
         case rel=>exact ⟨j+1,N++[a],true,by go_num,rfl,by omega,by simp;omega,HM1,HR9,HB9⟩
         case measure=>simp [intOf];omega
        ·go_wp2_with (at_builtin;refine wpList_append_el (E:=encK) rfl _ _ 139 51 rfl infoK wa.heap.size N a w3.heap.size (HO3.out.alloc _) rfl (el_newK w3 a _) (by have:=HSZ3.out;simp;omega) (by omega) ?_;intro v9 w9 hr9 hb9 hg9)
         have HR9:=Lib.hid hr9
         have HB9:=Lib.hid ((HB3.out.alloc HSZ3.out _).trans hb9)
         clear hr9 hb9 hg9
         go_wp2
         go_roundw
         case rel=>exact ⟨j+1,N++[a],true,by go_num,rfl,by omega,by simp;omega,HM1,HR9,HB9⟩
         case measure=>simp [intOf];omega
      | false =>
        by_cases hlt3:c < 0
        ·have HM1:=Lib.hid (midU_lt HM.out HA.out hne (HLT.out.2 hlt3))
         clear hne
         go_wp2_with (at_builtin;first
          | (refine wpList_append_el (E:=encK) rfl _ _ 139 51 rfl infoK wa.heap.size N x.key w3.heap.size (HO3.out.alloc _) rfl (el_newK w3 x.key _) (by have:=HSZ3.out;simp;omega) (by omega) ?_;intro v8 w8 hr8 hb8 hg8;have HR8:=Lib.hid hr8;have HB8:=Lib.hid ((HB3.out.alloc HSZ3.out (.cells (encK.cs x.key).toArray 51)).trans hb8);clear hr8 hb8 hg8 r0 r1 r2 r3 r4 s0 s1 s2 s3 s4;have HSZ8:Hid (wa.heap.size≤w8.heap.size):=Lib.hid HB8.out.size;obtain ⟨s0,s1,s2,s3,s4⟩:=key5 (HAT0.out.keep HB8.out HAT0.out.lt);simp only [show encK.k=5 from rfl] at s0 s1 s2 s3 s4)
          | (refine wpList_append_el (E:=encK) rfl _ _ 139 51 rfl infoK wa.heap.size (N++[x.key]) a w8.heap.size (HR8.out.alloc _) rfl (el_newK w8 a _) (by have:=HSZ8.out;simp;omega) (by simp;omega) ?_;intro v9 w9 hr9 hb9 hg9)
          | fail)
         have HR9:=Lib.hid hr9
         have HB9:=Lib.hid ((HB8.out.alloc HSZ8.out (.cells (encK.cs a).toArray 51)).trans hb9)
         clear hr9 hb9 hg9 s0 s1 s2 s3 s4
         go_wp2
         go_roundw
         case rel=>exact ⟨j+1,N++[x.key]++[a],true,by go_num,rfl,by omega,by simp;omega,HM1,HR9,HB9⟩
         case measure=>simp [intOf];omega
        ·have HM1:=Lib.hid (midU_gt HM.out HA.out hne (fun h=>hlt3 (HLT.out.1 h)))
         clear hne
         go_wp2_with (at_builtin;refine wpList_append_el (E:=encK) rfl _ _ 139 51 rfl infoK wa.heap.size N a w3.heap.size (HO3.out.alloc _) rfl (el_newK w3 a _) (by have:=HSZ3.out;simp;omega) (by omega) ?_;intro v9 w9 hr9 hb9 hg9)
         have HR9:=Lib.hid hr9
         have HB9:=Lib.hid ((HB3.out.alloc HSZ3.out _).trans hb9)
         clear hr9 hb9 hg9
         go_wp2
         go_roundw
         case rel=>exact ⟨j+1,N++[a],false,by go_num,rfl,by omega,by simp;omega,HM1,HR9,HB9⟩
         case measure=>simp [intOf];omega
    ·have hEND:A.length≤j:=by rw [HNA.out];omega
     have HBB:=Lib.hid (HB.out.trans (HB2.out.mono HB.out.size))
     cases d with
     | true =>
       have HRS:Hid (keysFrom [] (l.take (i+1))=N):=Lib.hid (by rw [HSN.out];exact midU_end1 HM.out hEND)
       have HO9:=Lib.hid (row_base HO.out HB.out.size)
       clear hEND HO
       go_wp2
       go_roundw
       case rel=>exact ⟨i+1,by go_num,by omega,by rw [HRS.out];exact HO9,HBB⟩
       case measure=>simp [intOf];omega
     | false =>
       have HRS:Hid (keysFrom [] (l.take (i+1))=N++[x.key]):=Lib.hid (by rw [HSN.out];exact midU_end0 HM.out hEND)
       have HSZ2:Hid (wa.heap.size≤wr.heap.size):=Lib.hid HB2.out.size
       obtain ⟨r0,r1,r2,r3,r4,r5⟩:=fact6 HATr.out
       simp only [show encF.k=6 from rfl] at r0 r1 r2 r3 r4
       clear hEND r5
       go_wp2_with (at_builtin;refine wpList_append_el (E:=encK) rfl _ _ 139 51 rfl infoK wa.heap.size N x.key wr.heap.size (HO.out.alloc _) rfl (el_newK wr x.key _) (by have:=HSZ2.out;simp;omega) (by omega) ?_;intro v9 w9 hr9 hb9 hg9)
       have HR9:=Lib.hid (row_base hr9 HB.out.size)
       have HB9:=Lib.hid (HB.out.trans (((HB2.out.alloc HSZ2.out (.cells (encK.cs x.key).toArray 51)).trans hb9).mono HB.out.size))
       clear hr9 hb9 hg9 r0 r1 r2 r3 r4
       go_wp2
       go_roundw
       case rel=>exact ⟨i+1,by go_num,by omega,by rw [HRS.out];exact HR9,HB9⟩
       case measure=>simp [intOf];omega
  ·have hTA:l.take i=l:=List.take_of_length_le (by rw [HN.out];omega)
   rw [hTA] at HO
   have HO9:=Lib.hid HO.out
   clear HO hTA
   go_wp2
   go_ret
   exact ⟨_,rfl,HO9.out,HB.out⟩
end Go.Proofs.YtdegffffcbhjbaaGreatDoor.Fa
end
section
namespace Go.Proofs.YtdegffffcbhjbaaGreatDoor.Fa
open Go.RowKit
theorem el_newF (w:World) (y:Fact) (t:TypeId):ElAt encF (w.alloc (.cells (encF.cs y).toArray t)) w.heap.size 0 y:=el_new encF w y t
end Go.Proofs.YtdegffffcbhjbaaGreatDoor.Fa
end
section
namespace Go.Proofs.YtdegffffcbhjbaaGreatDoor.Fa
open Go.RowKit
theorem grps_at {l:List Fact} {i:Nat} {k:Key} (h:(keysL l)[i]?=some k):(grps l)[i]?=some (k,amts l k):=by
 unfold grps;rw [List.getElem?_map,h];rfl
theorem amts_yes {l:List Fact} {j:Nat} {x:Fact} {k:Key} (hx:l[j]?=some x) (h:x.key=k):amts (l.take (j+1)) k=amts (l.take j) k++[x.amt]:=by
 unfold amts
 rw [List.take_add_one,hx]
 simp [h]
theorem amts_no {l:List Fact} {j:Nat} {x:Fact} {k:Key} (hx:l[j]?=some x) (h:x.key≠k):amts (l.take (j+1)) k=amts (l.take j) k:=by
 unfold amts
 rw [List.take_add_one,hx]
 simp [h]
theorem amts_len (l:List Fact) (j:Nat) (k:Key):(amts (l.take j) k).length≤j:=Nat.le_trans (amts_length _ _) (by rw [List.length_take];exact Nat.min_le_left _ _)
theorem el_newI (w:World) (y:Int) (t:TypeId):ElAt encI (w.alloc (.cells #[.int .i64 y] t)) w.heap.size 0 y:=el_new encI w y t
set_option maxRecDepth 100000 in
set_option maxHeartbeats 8000000 in
theorem rof_any (v:Value) (l:List Fact) (w:World) (h:FactsV w v l) (hz:∀ f∈l,In64 f.amt) (hL:l.length≤1000) :
 Calls Tryz.prog 34 #[v] w (CubeTold w (ofL l)):=by
 have HK:=Lib.hid (rkeys_any v l w h hL)
 have HV:=Lib.hid h
 obtain ⟨p,cp,rfl,hcap,hmx,_,_⟩:=h
 obtain ⟨n,hn⟩:∃ n,l.length=n:=⟨_,rfl⟩
 have HKL:=Lib.hid (keys_length l)
 rw [hn] at hcap hL HV HK HKL ⊢
 have HN:=Lib.hid hn
 have HZ:=Lib.hid (grps_in64 hz)
 obtain ⟨R,hR⟩:∃ R,ofL l=R:=⟨_,rfl⟩
 rw [hR]
 have HR:=Lib.hid (show runG (grps l)=R from hR)
 unfold maxLen at hmx
 clear hn hz hR
 go_enter Tryz.func34,Tryz.ntmps34
 go_wp2_with (go_at_call 58;refine HK.out.mono ?_;rintro e w1 ⟨vk,rfl,hok,hb1⟩)
 have HB1:=Lib.hid hb1
 have HE:=Lib.hid (els_of_own (E:=encK) hok)
 obtain ⟨pk,ck,rfl,_,_,_,_⟩:=id HE.out
 obtain ⟨nk,hnk⟩:∃ nk,(keysL l).length=nk:=⟨_,rfl⟩
 rw [hnk] at HE HKL ⊢
 have HNK:=Lib.hid hnk
 have hKL:=HKL.out
 have HSZ1:=Lib.hid hb1.size
 clear hok hb1 hnk HK
 go_wp2
 go_loopw [5,6] (fun s5 s6 wr=>∃ i:Nat,s6=.int .i64 (i:Int)∧i≤nk∧Hid (okG ((grps l).take i))∧Hid (wr.ownsRow w1.heap.size 53 6 s5 (accG ((grps l).take i)).length (flat encF (accG ((grps l).take i))))∧Hid (Below w1.heap.size w1 wr)) (fun _ s6 _=>nk - (intOf s6).toNat)
 case atStart=>exact ⟨0,rfl,Nat.zero_le _,Lib.hid (fun g hg=>by simp at hg),World.ownsRow_nil _ _ _ _,Lib.hid (Below.refl _ _)⟩
 case round =>
  obtain ⟨i,rfl,hin,HG,HO,HB⟩:=hrel
  rename World=>wa
  by_cases hlt:i < nk
  ·obtain ⟨k,hk⟩:∃ k,(keysL l)[i]?=some k:=⟨_,List.getElem?_eq_getElem (by rw [HNK.out];exact hlt)⟩
   obtain ⟨b2,o2,rfl,hat2⟩:=ElsV.at_ HE.out hk
   have HAK:=Lib.hid (hat2.keep HB.out hat2.lt)
   have HGA:=Lib.hid (grps_at hk)
   clear hk hat2
   go_wp2
   go_loopw [7,8] (fun s7 s8 wr=>∃ j:Nat,s8=.int .i64 (j:Int)∧j≤n∧Hid (wr.ownsRow wa.heap.size 2 1 s7 (amts (l.take j) k).length (flat encI (amts (l.take j) k)))∧Hid (Below wa.heap.size wa wr)) (fun _ s8 _=>n - (intOf s8).toNat)
   case atStart=>exact ⟨0,rfl,Nat.zero_le _,World.ownsRow_nil _ _ _ _,Lib.hid (Below.refl _ _)⟩
   case round =>
    obtain ⟨j,rfl,hj,HO2,HB2⟩:=hrel
    by_cases hlt2:j < n
    ·obtain ⟨x,hx⟩:∃ x,l[j]?=some x:=⟨_,List.getElem?_eq_getElem (by rw [HN.out];exact hlt2)⟩
     obtain ⟨b,o,rfl,hat⟩:=ElsV.at_ HV.out hx
     have HX:=Lib.hid hx
     have HAT:=Lib.hid (hat.keep HB1.out hat.lt)
     have HAT1:=Lib.hid (HAT.out.keep HB.out HAT.out.lt)
     obtain ⟨r0,r1,r2,r3,r4,r5⟩:=fact6 (HAT1.out.keep HB2.out HAT1.out.lt)
     obtain ⟨s0,s1,s2,s3,s4⟩:=key5 (HAK.out.keep HB2.out HAK.out.lt)
     simp only [show encF.k=6 from rfl,show encK.k=5 from rfl] at r0 r1 r2 r3 r4 r5 s0 s1 s2 s3 s4
     have gk:=guard_rkey
     have hq:=eql_rkey x.key k
     clear hx hat
     cases he:eqK x.key k with
     | true =>
       have hxk:x.key=k:=of_decide_eq_true he
       have HA:=Lib.hid (amts_yes HX.out hxk)
       have HLI:=Lib.hid (amts_len l j k)
       rw [he] at hq
       clear he hxk
       go_wp2_with fail
       go_big_quiet (fail)
       have HB3:=Lib.hid (belowN HB2.out nq)
       have HO3:=Lib.hid (row_below HO2.out (belowN (Below.refl wr.heap.size wr) nq))
       clear hq gk r0 r1 r2 r3 r4 r5 s0 s1 s2 s3 s4 HO2
       obtain ⟨W3,hW3⟩:∃ W3,wr.drewN nq=W3:=⟨_,rfl⟩
       rw [hW3] at HB3 HO3 ⊢
       clear hW3
       have HSZ3:=Lib.hid HB3.out.size
       obtain ⟨r0,r1,r2,r3,r4,r5⟩:=fact6 (HAT1.out.keep HB3.out HAT1.out.lt)
       simp only [show encF.k=6 from rfl] at r0 r1 r2 r3 r4 r5
       go_wp2_with (at_builtin;refine wpList_append_el (E:=encI) rfl _ _ 133 2 rfl infoI wa.heap.size (amts (l.take j) k) x.amt W3.heap.size (HO3.out.alloc _) rfl (el_newI _ _ _) (by have:=HSZ3.out;simp;omega) (by have:=HLI.out;omega) ?_;intro v9 w9 hr9 hb9 hg9)
       have HR9:=Lib.hid hr9
       have HB9:Hid (Below wa.heap.size wa w9):=Lib.hid ((HB3.out.alloc HSZ3.out _).trans hb9)
       clear hr9 hb9 hg9 r0 r1 r2 r3 r4 r5
       go_wp2
       go_roundw
       case rel=>exact ⟨j+1,by go_num,by omega,by rw [HA.out];exact HR9,HB9⟩
       case measure=>simp [intOf];omega
     | false =>
       have hxk:x.key≠k:=of_decide_eq_false he
       have HA:=Lib.hid (amts_no HX.out hxk)
       rw [he] at hq
       clear he hxk
       go_wp2_with fail
       go_big_quiet (fail)
       have HB3:=Lib.hid (belowN HB2.out nq)
       have HO3:=Lib.hid (row_below HO2.out (belowN (Below.refl wr.heap.size wr) nq))
       clear hq gk r0 r1 r2 r3 r4 r5 s0 s1 s2 s3 s4
       go_wp2
       go_roundw
       case rel=>exact ⟨j+1,by go_num,by omega,by rw [HA.out];exact HO3,HB3⟩
       case measure=>simp [intOf];omega
    ·have hTA:l.take j=l:=List.take_of_length_le (by rw [HN.out];omega)
     rw [hTA] at HO2
     clear hTA
     have HTK:Hid ((grps l).take (i+1)=(grps l).take i++[(k,amts l k)]):=Lib.hid (by rw [List.take_add_one,HGA.out];rfl)
     have HSP:Hid (grps l=(grps l).take i++(k,amts l k)::(grps l).drop (i+1)):=Lib.hid (by
      rw [←drop_at HGA.out,List.take_append_drop])
     have hI:∀ y∈amts l k,In64 y:=HZ.out _ (List.mem_of_getElem? HGA.out)
     obtain ⟨A,hA⟩:∃ A,amts l k=A:=⟨_,rfl⟩
     rw [hA] at HO2 HTK HSP hI
     clear hA
     have hv:=els_of_own (E:=encI) HO2.out
     obtain ⟨p9,c9,rfl,_⟩:=id hv
     have HSM:=Lib.hid (rsum_any p9 _ c9 A wr (rowIs_els hv) hI)
     obtain ⟨S,hS⟩:∃ S,sumFrom 0 A=S:=⟨_,rfl⟩
     obtain ⟨sv,se⟩:=S
     rw [hS] at HSM
     have HS:=Lib.hid hS
     have HBB:=Lib.hid (HB.out.trans (HB2.out.mono HB.out.size))
     have HOO:=Lib.hid (row_below HO.out (HB2.out.mono (Nat.le_refl _)))
     have HSZ2:=Lib.hid HB2.out.size
     have HSZa:=Lib.hid HB.out.size
     clear hv hS hI HO2
     by_cases he:se=0
     ·subst he
      have HG1:=Lib.hid (ok_snoc (g:=(k,A)) HG.out (by rw [HS.out]))
      by_cases h0:sv=0
      ·subst h0
       have HAC:Hid (accG ((grps l).take (i+1))=accG ((grps l).take i)):=Lib.hid (by rw [HTK.out,acc_snoc,HS.out];simp [putF])
       go_wp2_with (go_at_call 59;refine HSM.out.mono ?_;rintro e' w' ⟨rfl,rfl⟩)
       go_roundw
       case rel=>exact ⟨i+1,by go_num,by omega,by rw [HTK.out];exact HG1,by rw [HAC.out];exact HOO,HBB⟩
       case measure=>simp [intOf];omega
      ·have hne:(sv != 0)=true:=by rw [bne_iff_ne];exact h0
       have HAC:Hid (accG ((grps l).take (i+1))=accG ((grps l).take i)++[⟨k,sv⟩]):=Lib.hid (by rw [HTK.out,acc_snoc,HS.out];simp [putF,h0])
       have HLA:Hid ((accG ((grps l).take i)).length≤1000):=Lib.hid (by
        have e1:=acc_length ((grps l).take i)
        rw [List.length_take] at e1
        have e2:=grps_length l
        rw [HN.out] at e2
        omega)
       obtain ⟨s0,s1,s2,s3,s4⟩:=key5 (HAK.out.keep HB2.out HAK.out.lt)
       simp only [show encK.k=5 from rfl] at s0 s1 s2 s3 s4
       clear h0
       go_wp2_with (first | (go_at_call 59;refine HSM.out.mono ?_;rintro e' w' ⟨rfl,rfl⟩) | (at_builtin;refine wpList_append_el (E:=encF) rfl _ _ 44 53 rfl infoR w1.heap.size (accG ((grps l).take i)) ⟨k,sv⟩ wr.heap.size (HOO.out.alloc _) rfl (el_newF wr ⟨k,sv⟩ _) (by have:=HSZ2.out;have:=HSZa.out;simp;omega) (by have:=HLA.out;omega) ?_;intro v9 w9 hr9 hb9 hg9) | fail)
       have HR9:=Lib.hid hr9
       have HB9:Hid (Below w1.heap.size w1 w9):=Lib.hid ((HBB.out.alloc HBB.out.size _).trans hb9)
       clear hr9 hb9 hg9 s0 s1 s2 s3 s4
       go_wp2
       go_roundw
       case rel=>exact ⟨i+1,by go_num,by omega,by rw [HTK.out];exact HG1,by rw [HAC.out];exact HR9,HB9⟩
       case measure=>simp [intOf];omega
     ·have hne:(se != 0)=true:=by rw [bne_iff_ne];exact he
      have HRR:Hid (R=([],se)):=Lib.hid (by
       rw [←HR.out,HSP.out,run_err _ _ (k,A) HG.out (by rw [HS.out];exact he),HS.out])
      clear he
      go_wp2_with (go_at_call 59;refine HSM.out.mono ?_;rintro e' w' ⟨rfl,rfl⟩)
      go_ret2
      refine ⟨_,by rw [HRR.out];rfl,by rw [HRR.out];exact ElsV.nil _,HB1.out.trans (HBB.out.mono HB1.out.size)⟩
  ·have hTA:(grps l).take i=grps l:=List.take_of_length_le (by
    have:(grps l).length=nk:=by unfold grps;rw [List.length_map,HNK.out]
    omega)
   rw [hTA] at HO HG
   have HRR:Hid (R=(accG (grps l),0)):=Lib.hid (by rw [←HR.out,run_end _ HG.out])
   obtain ⟨A,hA⟩:∃ A,accG (grps l)=A:=⟨_,rfl⟩
   have hAL:A.length≤1000:=by
    rw [←hA]
    have e1:=acc_length (grps l)
    have e2:=grps_length l
    rw [HN.out] at e2
    omega
   rw [hA] at HO HRR
   have hv:=els_of_own (E:=encF) HO.out
   obtain ⟨p9,c9,rfl,_⟩:=id hv
   obtain ⟨m,hm⟩:∃ m,A.length=m:=⟨_,rfl⟩
   rw [hm] at hv hAL ⊢
   have HV9:=Lib.hid hv
   have h2:¬ (2000:Int) < (m:Int):=by omega
   clear hv hm hA hTA HO
   go_wp2
   go_ret2
   exact ⟨_,by rw [HRR.out];rfl,by rw [HRR.out];exact HV9.out,HB1.out.trans (HB.out.mono HB1.out.size)⟩
end Go.Proofs.YtdegffffcbhjbaaGreatDoor.Fa
end
section
namespace Go.Proofs.YtdegffffcbhjbaaGreatDoor.Pk
open Go.RowKit Go.Maps Go.Proofs.YtdegffffcbhjbaaGreatDoor.Un
structure DPAt (M:Mast) (W:World) (g:Nat) (i:Nat) (l:List (List ByteArray)) (x:PV) (S:St):Prop where
 box:BoxE encV W g 94 x
 pd:PD W (g+1) x S
 run:runP M st0 l=runP M S (l.drop i)
 few:S.facts.length≤i∧S.had.length≤i
theorem lineV_fewH {M:Mast} {S:St} {ws:List ByteArray} (h:lineE M S ws=0):(lineV S ws).had.length≤S.had.length+1:=by
 rcases line_ways h with ⟨_,_,_,_,e⟩ | ⟨_,_,_,e⟩ | ⟨_,_,_,e⟩ <;> rw [e]
 ·dsimp only;rw [List.length_append];exact Nat.le_refl _
 ·exact Nat.le_succ _
 ·exact Nat.le_succ _
theorem strs_lo {w:World} {v:Value} {ws:List ByteArray} (h:StrsV w v ws) (h0:0 < ws.length):∀ k,v.ownBlock=some k→k < w.heap.size:=by
 obtain ⟨p,c,rfl,_,_,hc⟩:=h
 obtain ⟨b,o,rfl,hat⟩:=hc 0 _ (List.getElem?_eq_getElem h0)
 intro k hk
 have e:b=k:=by simpa [Value.ownBlock] using hk
 subst e
 exact World.block_lt_of_cell? w _ hat
theorem wordsT_right (s:ByteArray):∀ ws∈wordsT s,∀ y∈ws,y≠emp:=fun ws hw y hy e=>by
 have h:=(text_right s ws hw).2 y hy
 subst e
 revert h
 decide
set_option maxRecDepth 100000 in
set_option maxHeartbeats 16000000 in
theorem rpparse_any (c f e l:Value) (M:Mast) (s:ByteArray) (w:World) (hm:MastIn w c f e l M) (hz:hasE M emp=false) (hs:s.size≤9000) :
 Calls Tryz.prog 13 #[aggM c f e l M,.string s] w (Fa.CubeTold w (parseP M s)):=by
 obtain ⟨pc,cc,pf,cf,pe,ce,pl,cl,rfl,rfl,rfl,rfl⟩:=shapes hm
 have hb0:=(Below.refl w.heap.size w).alloc (Nat.le_refl _) (.cells (cellsM (.slice pc M.chart.length cc) (.slice pf M.flows.length cf) (.slice pe M.ents.length ce) (.slice pl M.lines.length cl) M) 36)
 have hn0:=nine_new w (.slice pc M.chart.length cc) (.slice pf M.flows.length cf) (.slice pe M.ents.length ce) (.slice pl M.lines.length cl) M 36
 obtain ⟨W1,hW1⟩:∃ W1,w.alloc (.cells (cellsM (.slice pc M.chart.length cc) (.slice pf M.flows.length cf) (.slice pe M.ents.length ce) (.slice pl M.lines.length cl) M) 36)=W1:=⟨_,rfl⟩
 rw [hW1] at hb0 hn0
 have HB1:=Lib.hid hb0
 have HN1:=Lib.hid hn0
 have HM1:=Lib.hid (hm.keep hb0)
 have HZ:=Lib.hid hz
 have HLN:=Lib.hid (rlines_any s W1 (by omega))
 have HWP:=Lib.hid (words_pos s)
 have HWS:=Lib.hid (fun ws (h:ws∈wordsT s)=>word_size h)
 have HWR:=Lib.hid (wordsT_right s)
 have HWI:=Lib.hid (parseP_ways M s)
 have hpm:parseP M s=if linE s.data.toList=0 then endP (runP M st0 (wordsT s)) else ([],linE s.data.toList):=rfl
 obtain ⟨L,hL⟩:∃ L,asB (linV s.data.toList)=L:=⟨_,rfl⟩
 have hWT:wordsT s=L.map (·.2):=by unfold wordsT;rw [hL]
 rw [hWT] at hpm HWP HWS HWI HWR
 have hLL:L.length≤30001:=by
  rw [←hL,asB_length]
  unfold linV
  split
  ·simp
  ·split
   ·unfold linesL
    have h1:=numP_length (enumL 1 (linesGo [] s.data.toList))
    rw [enumL_length] at h1
    have h2:=linesGo_length [] s.data.toList
    rw [size_list] at h2
    omega
   ·simp
 obtain ⟨e0,he0⟩:∃ e0,linE s.data.toList=e0:=⟨_,rfl⟩
 rw [he0] at hpm HLN HWI
 rw [hL] at HLN
 obtain ⟨P,hP⟩:∃ P,parseP M s=P:=⟨_,rfl⟩
 rw [hP] at HWI ⊢
 have HPR:Hid (P=if e0=0 then endP (runP M st0 (L.map (·.2))) else ([],e0)):=Lib.hid (by rw [←hpm,hP])
 have HS:=Lib.hid hs
 clear hpm hL hWT he0 hP hb0 hn0 hm hz hs
 go_enter Tryz.func13,Tryz.ntmps13
 go_wp2_with fail
 clear hW1
 refine HLN.out.mono ?_
 rintro en w2 ⟨v2,rfl,hlv,hb2⟩
 have HB2:=Lib.hid (HB1.out.trans (hb2.mono HB1.out.size))
 have HN2:=Lib.hid (HN1.out.kept hb2)
 have HM2:=Lib.hid (HM1.out.keep hb2)
 clear hb2 HB1 HN1 HM1
 obtain ⟨p,cp,rfl,hmx,hc⟩:=hlv
 have HC:=Lib.hid hc
 clear hc
 by_cases h0:e0=0
 rotate_left
 ·have HPF:Hid (P=([],e0)):=Lib.hid (by rw [HPR.out,if_neg h0])
  have h0':(e0 != 0)=true:=by simp [h0]
  clear h0
  go_wp2
  go_ret2
  exact ⟨_,by rw [HPF.out];rfl,by rw [HPF.out];exact ElsV.nil _,HB2.out⟩
 subst h0
 have HPR2:Hid (P=endP (runP M st0 (L.map (·.2)))):=Lib.hid (by rw [HPR.out,if_pos rfl])
 clear HPR
 obtain ⟨n,hn⟩:∃ n,L.length=n:=⟨_,rfl⟩
 rw [hn] at hLL ⊢
 have HN:=Lib.hid hn
 have hb3:=(Below.refl w2.heap.size w2).alloc (Nat.le_refl _) (.cells #[.slice none 0 0,.string ⟨#[]⟩,.int .i64 0,.slice none 0 0] 94)
 have HST:Hid (∃ x S,DPAt M (w2.alloc (.cells #[.slice none 0 0,.string ⟨#[]⟩,.int .i64 0,.slice none 0 0] 94)) w2.heap.size 0 (L.map (·.2)) x S):=Lib.hid ⟨zeroV,st0,BoxE.new encV w2 zeroV 94,PD.zero _ _,rfl,⟨Nat.le_refl _,Nat.le_refl _⟩⟩
 have HSB:Hid (Below w2.heap.size w2 (w2.alloc (.cells #[.slice none 0 0,.string ⟨#[]⟩,.int .i64 0,.slice none 0 0] 94))):=Lib.hid hb3
 clear hn hmx hb3
 go_wp2
 go_loopw [9] (fun s9 wr=>∃ i:Nat,i≤n∧s9=.int .i64 (i:Int)∧Hid (∃ x S,DPAt M wr w2.heap.size i (L.map (·.2)) x S)∧Hid (Below w2.heap.size w2 wr)) (fun s9 _=>n - (intOf s9).toNat)
 case atStart=>exact ⟨0,Nat.zero_le _,rfl,HST,HSB⟩
 case round =>
  obtain ⟨i,hi,rfl,HPA,HBR⟩:=hrel
  obtain ⟨x,S,hpa⟩:=HPA.out
  have HP:=Lib.hid hpa
  clear hpa HPA HST HSB
  by_cases hlt:i < n
  ·obtain ⟨⟨ln,ws⟩,hx⟩:∃ x,L[i]?=some x:=⟨_,List.getElem?_eq_getElem (by rw [HN.out];exact hlt)⟩
   obtain ⟨b,o,u,rfl,d0,d1,hu⟩:=HC.out i _ hx
   dsimp only at d0 d1 hu
   have hwx:(L.map (·.2))[i]?=some ws:=by rw [List.getElem?_map,hx];rfl
   have hmem:=List.mem_of_getElem? hwx
   have HWX:=Lib.hid hwx
   have hw0:=HWP.out ws hmem
   have HW0:=Lib.hid hw0
   have HWZ:=Lib.hid (HWS.out ws hmem)
   have HWN:=Lib.hid (HWR.out ws hmem)
   have HLO:=Lib.hid (strs_lo hu hw0)
   have HU:=Lib.hid (hu.keep HBR.out)
   obtain ⟨t0,ht0⟩:∃ x,ws[0]?=some x:=⟨_,List.getElem?_eq_getElem hw0⟩
   have hwd:wd ws 0=t0:=wd_of ht0
   have q1:=qPackage t0
   have q2:=qJournal t0
   obtain ⟨pu,cu,rfl,hcu,hmu,hcw⟩:=hu
   obtain ⟨gu,ou,rfl,w0⟩:=hcw 0 t0 ht0
   rw [Nat.add_zero] at w0
   have y0:=(HBR.out.cell (World.block_lt_of_cell? w2 _ w0)).trans w0
   have e1:=(HBR.out.cell (World.block_lt_of_cell? w2 _ d1)).trans d1
   obtain ⟨nw,hnw⟩:∃ nw,ws.length=nw:=⟨_,rfl⟩
   rw [hnw] at e1 HU HLO
   have hnp:0 < nw:=by omega
   obtain ⟨k0,k1,k2,k3,k4,k5,k6,k7,k8⟩:=(HN2.out.kept HBR.out)
   obtain ⟨v0,v1,v2,v3⟩:=four_v HP.out.box.at0
   simp only [Nat.zero_add] at v0 v1 v2 v3
   have HSZ:Hid (w2.heap.size+1≤wr.heap.size):=Lib.hid HP.out.box.lt
   have HTL:Hid (∀ b:Bool,b=decide (t0=tPackage∨t0=tJournal)→Calls Tryz.prog (if b=true then 32 else 33) #[aggM (.slice pc M.chart.length cc) (.slice pf M.flows.length cf) (.slice pe M.ents.length ce) (.slice pl M.lines.length cl) M,aggV x,.slice (some ⟨gu,ou,none⟩) nw cu] wr (TurnTold wr (w2.heap.size+1) (lineV S ws) (lineE M S ws))):=Lib.hid (fun b hb=>by
    have hsz:∀ y∈ws,y.size≤1000000:=fun y hy=>by have:=HWZ.out y hy;have:=HS.out;omega
    by_cases hd:t0=tPackage∨t0=tJournal
    ·rw [hb,decide_eq_true hd,if_pos rfl]
     exact rbegin_any _ ws wr (w2.heap.size+1) _ _ _ _ M S x HU.out (fun k hk=>Nat.lt_succ_of_lt (HLO.out k hk)) (by rw [hwd];exact hd) hsz HSZ.out (HM2.out.keep HBR.out) (by have:=HP.out.few;omega) HP.out.pd
    ·rw [hb,decide_eq_false hd,if_neg (by simp)]
     exact rone_any _ ws wr (w2.heap.size+1) _ _ _ _ M S x HU.out HW0.out (by rw [hwd];exact fun h=>hd (.inl h)) (by rw [hwd];exact fun h=>hd (.inr h)) HWN.out hsz HSZ.out (HM2.out.keep HBR.out) HZ.out (by have:=HP.out.few;omega) HP.out.pd)
   obtain ⟨E,hE⟩:∃ E,lineE M S ws=E:=⟨_,rfl⟩
   rw [hE] at HTL
   have HE:=Lib.hid hE
   have HDR:Hid ((L.map (·.2)).drop i=ws::(L.map (·.2)).drop (i+1)):=Lib.hid (by
    have hlt':=(List.getElem?_eq_some_iff.1 HWX.out).1
    rw [List.drop_eq_getElem_cons hlt',(List.getElem?_eq_some_iff.1 HWX.out).2])
   clear hx hwx d0 d1 hnw hE hmem hwd hw0 ht0 w0 hcw hcu hmu
   by_cases hp:t0=tPackage
   ·have HTM:=Lib.hid (HTL.out true (by rw [decide_eq_true (.inl hp)]))
    rw [decide_eq_true hp] at q1
    clear hp q2
    go_wp2_with fail
    refine HTM.out.mono ?_
    rintro en w3 ⟨x',rfl,hb3,hpd⟩
    have HB3:=Lib.hid (HBR.out.trans (hb3.mono (Nat.le_succ _)))
    have HX3:=Lib.hid (HP.out.box.keep hb3 (Nat.lt_succ_self _))
    have HPD:=Lib.hid hpd
    clear hb3 hpd HTL HTM k0 k1 k2 k3 k4 k5 k6 k7 k8 v0 v1 v2 v3 y0 e1
    by_cases hE0:E=0
    ·subst hE0
     go_wp2_with (first
      | (refine wpList_store_el (E:=encV) rfl 94 (.tmp 8) (.tmp 46) rfl w2.heap.size x x' 94 rfl rfl HX3.out (by kernel_rfl) ?_;intro w4 hx4 hg4;have HX4:=Lib.hid hx4;have HG4:=Lib.hid hg4;clear hx4 hg4)
      | fail)
     have HB4:=Lib.hid (HB3.out.grown HG4.out HB3.out.size (fun j hj=>by cases hj;exact Nat.le_refl _))
     have HNX:Hid (∃ x S,DPAt M w4 w2.heap.size (i+1) (L.map (·.2)) x S):=Lib.hid ⟨x',lineV S ws,HX4.out,(HPD.out (by first | trivial | rfl)).boxed HX3.out HG4.out,by rw [HP.out.run,HDR.out,runP_cons _ HE.out],by have:=lineV_few HE.out;have:=HP.out.few;omega,by have:=lineV_fewH HE.out;have:=HP.out.few;omega⟩
     go_roundw
     case rel=>exact ⟨i+1,by omega,by go_num,HNX,HB4⟩
     case measure=>simp [intOf];omega
    ·have HPF:Hid (P=([],E)):=Lib.hid (by rw [HPR2.out,HP.out.run,HDR.out,runP_stop _ (by rw [HE.out];exact hE0),HE.out,endP_no _ hE0])
     have hE0':(E != 0)=true:=by simp [hE0]
     clear hE0
     go_wp2_with (first
      | (refine wpList_store_el (E:=encV) rfl 94 (.tmp 8) (.tmp 46) rfl w2.heap.size x x' 94 rfl rfl HX3.out (by kernel_rfl) ?_;intro w4 hx4 hg4;have HX4:=Lib.hid hx4;have HG4:=Lib.hid hg4;clear hx4 hg4)
      | fail)
     have HB4:=Lib.hid (HB3.out.grown HG4.out HB3.out.size (fun j hj=>by cases hj;exact Nat.le_refl _))
     have HBF:=Lib.hid (HB2.out.trans (HB4.out.mono HB2.out.size))
     go_ret2
     exact ⟨_,by rw [HPF.out];rfl,by rw [HPF.out];exact ElsV.nil _,HBF.out⟩
   by_cases hj:t0=tJournal
   ·have HTM:=Lib.hid (HTL.out true (by rw [decide_eq_true (.inr hj)]))
    rw [decide_eq_true hj] at q2
    rw [decide_eq_false hp] at q1
    clear hp hj
    go_wp2_with fail
    refine HTM.out.mono ?_
    rintro en w3 ⟨x',rfl,hb3,hpd⟩
    have HB3:=Lib.hid (HBR.out.trans (hb3.mono (Nat.le_succ _)))
    have HX3:=Lib.hid (HP.out.box.keep hb3 (Nat.lt_succ_self _))
    have HPD:=Lib.hid hpd
    clear hb3 hpd HTL HTM k0 k1 k2 k3 k4 k5 k6 k7 k8 v0 v1 v2 v3 y0 e1
    by_cases hE0:E=0
    ·subst hE0
     go_wp2_with (first
      | (refine wpList_store_el (E:=encV) rfl 94 (.tmp 8) (.tmp 46) rfl w2.heap.size x x' 94 rfl rfl HX3.out (by kernel_rfl) ?_;intro w4 hx4 hg4;have HX4:=Lib.hid hx4;have HG4:=Lib.hid hg4;clear hx4 hg4)
      | fail)
     have HB4:=Lib.hid (HB3.out.grown HG4.out HB3.out.size (fun j hj=>by cases hj;exact Nat.le_refl _))
     have HNX:Hid (∃ x S,DPAt M w4 w2.heap.size (i+1) (L.map (·.2)) x S):=Lib.hid ⟨x',lineV S ws,HX4.out,(HPD.out (by first | trivial | rfl)).boxed HX3.out HG4.out,by rw [HP.out.run,HDR.out,runP_cons _ HE.out],by have:=lineV_few HE.out;have:=HP.out.few;omega,by have:=lineV_fewH HE.out;have:=HP.out.few;omega⟩
     go_roundw
     case rel=>exact ⟨i+1,by omega,by go_num,HNX,HB4⟩
     case measure=>simp [intOf];omega
    ·have HPF:Hid (P=([],E)):=Lib.hid (by rw [HPR2.out,HP.out.run,HDR.out,runP_stop _ (by rw [HE.out];exact hE0),HE.out,endP_no _ hE0])
     have hE0':(E != 0)=true:=by simp [hE0]
     clear hE0
     go_wp2_with (first
      | (refine wpList_store_el (E:=encV) rfl 94 (.tmp 8) (.tmp 46) rfl w2.heap.size x x' 94 rfl rfl HX3.out (by kernel_rfl) ?_;intro w4 hx4 hg4;have HX4:=Lib.hid hx4;have HG4:=Lib.hid hg4;clear hx4 hg4)
      | fail)
     have HB4:=Lib.hid (HB3.out.grown HG4.out HB3.out.size (fun j hj=>by cases hj;exact Nat.le_refl _))
     have HBF:=Lib.hid (HB2.out.trans (HB4.out.mono HB2.out.size))
     go_ret2
     exact ⟨_,by rw [HPF.out];rfl,by rw [HPF.out];exact ElsV.nil _,HBF.out⟩
   have HTM:=Lib.hid (HTL.out false (by rw [decide_eq_false (fun h=>h.elim hp hj)]))
   rw [decide_eq_false hj] at q2
   rw [decide_eq_false hp] at q1
   clear hp hj
   go_wp2_with fail
   refine HTM.out.mono ?_
   rintro en w3 ⟨x',rfl,hb3,hpd⟩
   have HB3:=Lib.hid (HBR.out.trans (hb3.mono (Nat.le_succ _)))
   have HX3:=Lib.hid (HP.out.box.keep hb3 (Nat.lt_succ_self _))
   have HPD:=Lib.hid hpd
   clear hb3 hpd HTL HTM k0 k1 k2 k3 k4 k5 k6 k7 k8 v0 v1 v2 v3 y0 e1
   by_cases hE0:E=0
   ·subst hE0
    go_wp2_with (first
     | (refine wpList_store_el (E:=encV) rfl 94 (.tmp 8) (.tmp 53) rfl w2.heap.size x x' 94 rfl rfl HX3.out (by kernel_rfl) ?_;intro w4 hx4 hg4;have HX4:=Lib.hid hx4;have HG4:=Lib.hid hg4;clear hx4 hg4)
     | fail)
    have HB4:=Lib.hid (HB3.out.grown HG4.out HB3.out.size (fun j hj=>by cases hj;exact Nat.le_refl _))
    have HNX:Hid (∃ x S,DPAt M w4 w2.heap.size (i+1) (L.map (·.2)) x S):=Lib.hid ⟨x',lineV S ws,HX4.out,(HPD.out (by first | trivial | rfl)).boxed HX3.out HG4.out,by rw [HP.out.run,HDR.out,runP_cons _ HE.out],by have:=lineV_few HE.out;have:=HP.out.few;omega,by have:=lineV_fewH HE.out;have:=HP.out.few;omega⟩
    go_roundw
    case rel=>exact ⟨i+1,by omega,by go_num,HNX,HB4⟩
    case measure=>simp [intOf];omega
   ·have HPF:Hid (P=([],E)):=Lib.hid (by rw [HPR2.out,HP.out.run,HDR.out,runP_stop _ (by rw [HE.out];exact hE0),HE.out,endP_no _ hE0])
    have hE0':(E != 0)=true:=by simp [hE0]
    clear hE0
    go_wp2_with (first
     | (refine wpList_store_el (E:=encV) rfl 94 (.tmp 8) (.tmp 53) rfl w2.heap.size x x' 94 rfl rfl HX3.out (by kernel_rfl) ?_;intro w4 hx4 hg4;have HX4:=Lib.hid hx4;have HG4:=Lib.hid hg4;clear hx4 hg4)
     | fail)
    have HB4:=Lib.hid (HB3.out.grown HG4.out HB3.out.size (fun j hj=>by cases hj;exact Nat.le_refl _))
    have HBF:=Lib.hid (HB2.out.trans (HB4.out.mono HB2.out.size))
    go_ret2
    exact ⟨_,by rw [HPF.out];rfl,by rw [HPF.out];exact ElsV.nil _,HBF.out⟩
  ·have HRN:Hid (runP M st0 (L.map (·.2))=(S,0)):=Lib.hid (by
    rw [HP.out.run,List.drop_eq_nil_of_le (by rw [List.length_map,HN.out];omega)];rfl)
   have HPF:Hid (P=Fa.ofL S.facts∧S.facts.length≤1000∧∀ x∈S.facts,In64 x.amt):=Lib.hid (by
    have h1:=HPR2.out
    rw [HRN.out,endP_ok] at h1
    rcases HWI.out with ⟨T,_,h3,h4,h5,_⟩ | ⟨_,_,h3 | h3⟩
    ·rw [HRN.out] at h3
     obtain rfl:=(Prod.mk.inj h3).1
     exact ⟨h1,by have:=HS.out;omega,fun x hx=>(h4.ok x hx).1⟩
    ·rw [HRN.out] at h3;exact absurd rfl h3
    ·exact absurd rfl h3)
   have HOF:=Lib.hid (Fa.rof_any x.vf S.facts wr (els_of_own HP.out.pd.facts) HPF.out.2.2 HPF.out.2.1)
   rw [←HPF.out.1] at HOF
   have HBW:=Lib.hid (HB2.out.trans (HBR.out.mono HB2.out.size))
   obtain ⟨v0,v1,v2,v3⟩:=four_v HP.out.box.at0
   simp only [Nat.zero_add] at v0 v1 v2 v3
   go_wp2_with fail
   clear v0 v1 v2 v3
   refine HOF.out.mono ?_
   rintro en w5 ⟨u5,rfl,hf5,hb5⟩
   have HF5:=Lib.hid hf5
   have HB5:=Lib.hid (HBW.out.trans (hb5.mono HBW.out.size))
   clear hf5 hb5
   go_wp2
   go_ret2
   exact ⟨_,rfl,HF5.out,HB5.out⟩
end Go.Proofs.YtdegffffcbhjbaaGreatDoor.Pk
end
section
namespace Go.Proofs.YtdegffffcbhjbaaGreatDoor.Pk
open Go.RowKit Go.Maps Go.Proofs.YtdegffffcbhjbaaGreatDoor.Un
theorem parseP_few {M:Mast} {s:ByteArray} (hs:s.size≤9000):(parseP M s).1.length≤1000:=by
 rcases parseP_ways M s with ⟨T,_,_,h3,h4,h5⟩ | ⟨_,h1,_⟩
 ·rw [h5]
  have hl:=Fa.ofL_length T.facts
  omega
 ·rw [h1];simp
set_option maxRecDepth 100000 in
set_option maxHeartbeats 16000000 in
theorem packTells_walk (s0 s1:ByteArray) (w:World) (_hs0:s0.size≤maxLen) (_hs1:s1.size≤maxLen) (hU:LaidP w):Calls Tryz.prog 3 #[.string s0,.string s1] w fun en w'=>en=.returned (.bool true)∧Below w.heap.size w w':=by
 have HL:=Lib.hid hU
 clear hU _hs0 _hs1
 go_enter Tryz.func3,Tryz.ntmps3
 go_wp2_with fail
 refine (alive11_any _ HL.out).mono ?_
 rintro en w1 ⟨rfl,hb1⟩
 have HB1:=Lib.hid hb1
 have HL1:=Lib.hid (HL.out.keep hb1)
 clear hb1
 go_wp2_with fail
 refine (master_any s0 _ HL1.out.1 HL1.out.2.1).mono ?_
 rintro en w2 ⟨M,c,f,e,l,c',f',e',l',is,rfl,hm,hm',hb2,his⟩
 obtain ⟨pc,cc,pf,cf,pe,ce,pl,cl,rfl,rfl,rfl,rfl⟩:=shapes hm
 obtain ⟨pc',cc',pf',cf',pe',ce',pl',cl',rfl,rfl,rfl,rfl⟩:=shapes hm'
 have HM2:=Lib.hid hm
 have HM2':=Lib.hid hm'
 have HB2:=Lib.hid (HB1.out.trans (hb2.mono HB1.out.size))
 have HL2:=Lib.hid (HL1.out.keep hb2)
 have HIS:=Lib.hid his
 clear hm hm' hb2 his HB1 HL1
 by_cases hs1:4000 < s1.size
 ·cases is
  all_goals
   go_wp2_with (first
    | (refine wpList_store_mast rfl 30 (.tmp 5) (.tmp 17) rfl w2.heap.size nil4 nil4 nil4 nil4 (.slice pc M.chart.length cc) (.slice pf M.flows.length cf) (.slice pe M.ents.length ce) (.slice pl M.lines.length cl) zeroM M 30 rfl rfl (start1 w2) ⟨rfl,rfl,rfl,rfl⟩ (by kernel_rfl) ?_;intro w3 hb3 hg3;have HX3:=Lib.hid hb3;have HG3:=Lib.hid hg3;clear hb3 hg3)
    | (refine wpList_store_mast rfl 36 (.tmp 6) (.tmp 18) rfl (w2.heap.size+1) nil4 nil4 nil4 nil4 (.slice pc' M.chart.length cc') (.slice pf' M.flows.length cf') (.slice pe' M.ents.length ce') (.slice pl' M.lines.length cl') zeroM M 36 rfl rfl (start_keep HG3.out) ⟨rfl,rfl,rfl,rfl⟩ (by kernel_rfl) ?_;intro w4 hb4 hg4;have HT4:=Lib.hid (two_of HM2.out HM2'.out HX3.out HG3.out hb4 hg4);clear hb4 hg4)
    | fail)
   have HB4:=Lib.hid (HB2.out.trans (HT4.out.bel.mono HB2.out.size))
   go_ret
   exact ⟨rfl,HB4.out⟩
 cases is with
 | false =>
   go_wp2_with (first
    | (refine wpList_store_mast rfl 30 (.tmp 5) (.tmp 17) rfl w2.heap.size nil4 nil4 nil4 nil4 (.slice pc M.chart.length cc) (.slice pf M.flows.length cf) (.slice pe M.ents.length ce) (.slice pl M.lines.length cl) zeroM M 30 rfl rfl (start1 w2) ⟨rfl,rfl,rfl,rfl⟩ (by kernel_rfl) ?_;intro w3 hb3 hg3;have HX3:=Lib.hid hb3;have HG3:=Lib.hid hg3;clear hb3 hg3)
    | (refine wpList_store_mast rfl 36 (.tmp 6) (.tmp 18) rfl (w2.heap.size+1) nil4 nil4 nil4 nil4 (.slice pc' M.chart.length cc') (.slice pf' M.flows.length cf') (.slice pe' M.ents.length ce') (.slice pl' M.lines.length cl') zeroM M 36 rfl rfl (start_keep HG3.out) ⟨rfl,rfl,rfl,rfl⟩ (by kernel_rfl) ?_;intro w4 hb4 hg4;have HT4:=Lib.hid (two_of HM2.out HM2'.out HX3.out HG3.out hb4 hg4);clear hb4 hg4)
    | fail)
   have HB4:=Lib.hid (HB2.out.trans (HT4.out.bel.mono HB2.out.size))
   go_ret
   exact ⟨rfl,HB4.out⟩
 | true =>
 go_wp2_with (first
  | (refine wpList_store_mast rfl 30 (.tmp 5) (.tmp 17) rfl w2.heap.size nil4 nil4 nil4 nil4 (.slice pc M.chart.length cc) (.slice pf M.flows.length cf) (.slice pe M.ents.length ce) (.slice pl M.lines.length cl) zeroM M 30 rfl rfl (start1 w2) ⟨rfl,rfl,rfl,rfl⟩ (by kernel_rfl) ?_;intro w3 hb3 hg3;have HX3:=Lib.hid hb3;have HG3:=Lib.hid hg3;clear hb3 hg3)
  | (refine wpList_store_mast rfl 36 (.tmp 6) (.tmp 18) rfl (w2.heap.size+1) nil4 nil4 nil4 nil4 (.slice pc' M.chart.length cc') (.slice pf' M.flows.length cf') (.slice pe' M.ents.length ce') (.slice pl' M.lines.length cl') zeroM M 36 rfl rfl (start_keep HG3.out) ⟨rfl,rfl,rfl,rfl⟩ (by kernel_rfl) ?_;intro w4 hb4 hg4;have HT4:=Lib.hid (two_of HM2.out HM2'.out HX3.out HG3.out hb4 hg4);clear hb4 hg4;obtain ⟨n0,n1,n2,n3,n4,n5,n6,n7,n8⟩:=HT4.out.nine)
  | fail)
 have HB4:=Lib.hid (HB2.out.trans (HT4.out.bel.mono HB2.out.size))
 have HL4:=Lib.hid (HL2.out.keep HT4.out.bel)
 clear HM2 HM2' HB2 HL2 HX3 HG3
 clear n0 n1 n2 n3 n4 n5 n6 n7 n8
 have hR:=(HIS.out (by first | trivial | rfl)).1
 have hsn:=hR.inv.sane
 have hz:=solid_none (solid_of hR)
 have HPP:=Lib.hid (fun W h hL=>pparse_any (.slice pc M.chart.length cc) (.slice pf M.flows.length cf) (.slice pe M.ents.length ce) (.slice pl M.lines.length cl) M s1 W h hsn hL (by omega))
 have HPD:=Lib.hid (fun W h=>rpparse_any (.slice pc' M.chart.length cc') (.slice pf' M.flows.length cf') (.slice pe' M.ents.length ce') (.slice pl' M.lines.length cl') M s1 W h hz (by omega))
 have hfew:=parseP_few (M:=M) (s:=s1) (by omega)
 obtain ⟨C,hC⟩:∃ C,(parseP M s1).1=C:=⟨_,rfl⟩
 obtain ⟨N,hN⟩:∃ N,(parseP M s1).2=N:=⟨_,rfl⟩
 unfold Fa.CubeTold at HPP HPD
 simp only [hC,hN] at HPP HPD hfew
 have HFW:=Lib.hid hfew
 clear hC hN hR hsn hs1 hz hfew
 refine (HPP.out _ HT4.out.mast HL4.out.2.2).mono ?_
 rintro en w5 ⟨u5,rfl,hf5,hb5⟩
 have HB5:=Lib.hid (HB4.out.trans (hb5.mono HB4.out.size))
 have HT5:=Lib.hid (HT4.out.keep hb5)
 have HF5:=Lib.hid hf5
 clear hb5 hf5 HB4 HT4 HL4 HPP
 obtain ⟨n0,n1,n2,n3,n4,n5,n6,n7,n8⟩:=HT5.out.nine'
 go_wp2_with fail
 clear n0 n1 n2 n3 n4 n5 n6 n7 n8
 refine (HPD.out _ HT5.out.mast').mono ?_
 rintro en w6 ⟨u6,rfl,hf6,hb6⟩
 have HB6:=Lib.hid (HB5.out.trans (hb6.mono HB5.out.size))
 have HF5b:=Lib.hid (ElsV.keep HF5.out hb6)
 have HF6:=Lib.hid hf6
 clear hb6 hf6 HB5 HT5 HPD HF5
 go_wp2_with fail
 refine (Fa.ours_any u5 C w6 HF5b.out (by have:=HFW.out;omega)).mono ?_
 rintro en w7 ⟨u7,rfl,ho7,hb7⟩
 have HB7:=Lib.hid (HB6.out.trans (hb7.mono HB6.out.size))
 have HF7:=Lib.hid (els_of_own (E:=Fa.encF) ho7)
 have HF6b:=Lib.hid (ElsV.keep HF6.out hb7)
 clear ho7 hb7 HB6 HF5b HF6
 go_wp2_with fail
 refine (Fa.same_any u7 u6 C C w7 HF7.out HF6b.out).mono ?_
 rintro en w8 ⟨rfl,hb8⟩
 have HB8:=Lib.hid (HB7.out.trans (hb8.mono HB7.out.size))
 rw [show Fa.sameL C C=true from decide_eq_true rfl]
 have hnn:(N==N)=true:=by simp
 clear hb8
 go_wp2
 go_ret
 exact ⟨by first | rfl | simp,HB8.out⟩
end Go.Proofs.YtdegffffcbhjbaaGreatDoor.Pk
end
