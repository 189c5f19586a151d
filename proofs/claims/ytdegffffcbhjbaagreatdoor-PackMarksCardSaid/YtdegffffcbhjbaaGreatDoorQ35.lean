/- Base CentNum FaGet FaFacts PkSmall CentRefPrint PkText PackMarks -/
import Derived.Laws.IdiomStrings
import Derived.Lib.ItoaLen
import Derived.Test.YtdegffffcbhjbaaGreatDoorQ11
import Derived.Test.YtdegffffcbhjbaaGreatDoorQ27
import Derived.Test.YtdegffffcbhjbaaGreatDoorQ28
import Derived.Test.YtdegffffcbhjbaaGreatDoorQ29
import Derived.Test.YtdegffffcbhjbaaGreatDoorQ30
section
namespace Go.Proofs.YtdegffffcbhjbaaGreatDoor
open Go.RowKit
theorem fit_of_in64 {a:Int} (h:In64 a):fit a=true:=(fit_iff a).2 h
def In32 (a:Int):Prop:=-2147483648≤a∧a≤2147483647
theorem in_of_wf_i32 {a:Int} (h:(Lit.int .i32 a).wf=true):In32 a:=by
 have e1:IntKind.i32.min=-2147483648:=rfl
 have e2:IntKind.i32.max=2147483647:=rfl
 simp [Lit.wf,e1,e2] at h
 exact h
end Go.Proofs.YtdegffffcbhjbaaGreatDoor
end
section
namespace Go.Proofs.YtdegffffcbhjbaaGreatDoor
open Go.Lib (decDigits itoa nDigits parseIntB parseUintB parseMag parseUint10)
theorem ofNat_toNat {n:Nat} (h:n < 10):(UInt8.ofNat (48+n)).toNat=48+n:=by
 rw [UInt8.toNat_ofNat'];omega
theorem dec_small {u:Nat} (h:u < 10):decDigits u=[UInt8.ofNat (48+u)]:=by rw [decDigits,dif_pos h]
theorem dec_big {u:Nat} (h:¬ u < 10):decDigits u=decDigits (u / 10)++[UInt8.ofNat (48+u % 10)]:=by rw [decDigits,dif_neg h]
theorem digs_dec (u:Nat):digs (decDigits u)=true:=by
 induction u using Nat.strongRecOn with
 | _ u ih =>
   by_cases h:u < 10
   ·rw [dec_small h];simp [digs,dig_iff];omega
   ·rw [dec_big h,digs_snoc,ih (u / 10) (by omega),Bool.true_and,dig_iff,ofNat_toNat (by omega)];omega
theorem num_dec (u:Nat):num 0 (decDigits u)=u:=by
 induction u using Nat.strongRecOn with
 | _ u ih =>
   by_cases h:u < 10
   ·rw [dec_small h,show num 0 [UInt8.ofNat (48+u)]=(UInt8.ofNat (48+u)).toNat - 48 by simp [num],ofNat_toNat h];omega
   ·rw [dec_big h,num_snoc,ih (u / 10) (by omega),ofNat_toNat (by omega)];omega
theorem plain_dec {u:Nat} (h0:0 < u):plainNum (decDigits u)=true:=by
 have hd:=digs_dec u
 have hh:∃ c r,decDigits u=c::r∧c≠48:=by
  clear hd
  induction u using Nat.strongRecOn with
  | _ u ih =>
    by_cases h:u < 10
    ·rw [dec_small h]
     refine ⟨_,_,rfl,fun e=>?_⟩
     have:=congrArg UInt8.toNat e
     rw [ofNat_toNat h] at this
     have e48:(48:UInt8).toNat=48:=rfl
     omega
    ·obtain ⟨c,r,e,hc⟩:=ih (u / 10) (by omega) (by omega)
     rw [dec_big h,e]
     exact ⟨c,_,rfl,hc⟩
 obtain ⟨c,r,e,hc⟩:=hh
 rw [e] at hd ⊢
 simp [plainNum,hc,hd]
theorem dec_zero:decDigits 0=[48]:=by rw [dec_small (by omega)];rfl
theorem plain_head {l:List UInt8} (h:plainNum l=true):∃ c r,l=c::r∧c≠45:=by
 obtain ⟨c,r,e,_,hd⟩:=plainNum_cons h
 refine ⟨c,r,e,fun h45=>?_⟩
 subst h45
 rw [digs_cons,Bool.and_eq_true] at hd
 exact absurd hd.1 (by decide)
theorem whole_plain {l:List UInt8} (h:plainNum l=true):whole l=true∧val l=((num 0 l:Nat):Int):=by
 obtain ⟨c,r,rfl,hc⟩:=plain_head h
 rw [whole_other r hc,val_other r hc,h]
 simp
theorem whole_itoa (n:Int):whole (itoa n)=true∧val (itoa n)=n:=by
 unfold itoa
 split
 ·rename_i h
  rw [whole_minus,val_minus,num_dec]
  exact ⟨plain_dec (by omega),by omega⟩
 ·rename_i h
  by_cases h0:n=0
  ·subst h0;exact ⟨by rw [show (0:Int).toNat=0 from rfl,dec_zero];decide,by rw [show (0:Int).toNat=0 from rfl,dec_zero];decide⟩
  ·obtain ⟨h1,h2⟩:=whole_plain (plain_dec (u:=n.toNat) (by omega))
   rw [h1,h2,num_dec]
   exact ⟨rfl,by omega⟩
theorem parse_itoa {n:Int} (h:fit n=true):parseV (itoa n)=n∧parseE (itoa n)=0:=by
 obtain ⟨h1,h2⟩:=whole_itoa n
 simp [parseV,parseE,h1,h2,h]
theorem itoa_ne_nil (a:Int):itoa a≠[]:=by
 intro h
 have:=(whole_itoa a).1
 rw [h] at this
 cases this
end Go.Proofs.YtdegffffcbhjbaaGreatDoor
end
section
namespace Go.Proofs.YtdegffffcbhjbaaGreatDoor.Fa
open Go.RowKit
set_option maxRecDepth 100000 in
set_option maxHeartbeats 2000000 in
theorem get_any (v:Value) (L:List Fact) (c:Key) (w:World) (h:FactsV w v L) (hr:RiseF L) (hL:L.length≤1000) :
 Calls Tryz.prog 27 #[v,aggK c] w fun e w'=>e=.returned (.int .i64 (getL L c))∧Below w.heap.size w w':=by
 have HB0:=Lib.hid ((Below.refl w.heap.size w).alloc (Nat.le_refl _) (.cells (encK.cs c).toArray 56))
 have hV:=h.keep HB0.out
 obtain ⟨g,hg⟩:∃ g,getL L c=g:=⟨_,rfl⟩
 rw [hg]
 have HG:=Lib.hid hg
 have HR:=Lib.hid hr
 have HS:=Lib.hid (search_any v L c _ hV hr hL)
 have HV:=Lib.hid hV
 clear hg hV h hr
 go_enter Tryz.func27,Tryz.ntmps27
 go_wp2_with fail
 refine HS.out.mono ?_
 rintro e w1 ⟨at_,is,rfl,hf,hb⟩
 have HB1:=Lib.hid (HB0.out.trans (hb.mono HB0.out.size))
 cases is with
 | false =>
   have hg0:g=0:=by rw [←HG.out,getL_no (hf.2 rfl)]
   subst hg0
   clear hf hb
   go_wp2
   go_ret
   exact ⟨rfl,HB1.out⟩
 | true =>
   obtain ⟨x,hx,hk⟩:=hf.1 rfl
   have hgx:x.amt=g:=by rw [←HG.out,←hk,getL_mem HR.out (List.mem_of_getElem? hx)]
   obtain ⟨p,cap,rfl,hcap,hm,_,hc⟩:=HV.out
   obtain ⟨b,o,rfl,hat⟩:=hc at_ x hx
   have hlt:=hat.lt
   obtain ⟨r0,r1,r2,r3,r4,r5⟩:=fact6 (hat.keep hb hlt)
   rw [hgx] at r5
   simp only [show encF.k=6 from rfl] at r5
   have hin:=(List.getElem?_eq_some_iff.1 hx).1
   obtain ⟨n,hn⟩:∃ n,L.length=n:=⟨_,rfl⟩
   rw [hn] at hin hL ⊢
   unfold maxLen at hm
   clear hf hb hx hk hgx hat hlt hc r0 r1 r2 r3 r4 hcap HS HV
   go_wp2
   go_ret
   exact ⟨rfl,HB1.out⟩
end Go.Proofs.YtdegffffcbhjbaaGreatDoor.Fa
end
section
namespace Go.Proofs.YtdegffffcbhjbaaGreatDoor.Fa
theorem ofL_small {l:List Fact} (h:Bnd 4503599627370496 l) (hn:l.length≤150):ofL l=(cube l,0) :=
 ofL_fit (by decide) h (m:=150) (fun k=>Nat.le_trans (amts_length l k) hn) (by decide)
end Go.Proofs.YtdegffffcbhjbaaGreatDoor.Fa
end
section
namespace Go.Proofs.YtdegffffcbhjbaaGreatDoor.Pk
open Go.RowKit Go.Proofs.YtdegffffcbhjbaaGreatDoor.Un Go.Proofs.YtdegffffcbhjbaaGreatDoor.Fa
section
variable {b:Bool} {M:Mast}
theorem SmallM.both (h:SmallM b M) {c t1 t2:ByteArray} {n k:Int} (hn:nmB c=true) (hc:hasE M c=true) (h1:parseV t1.data.toList=n) (e1:parseE t1.data.toList=0) (h2:parseV t2.data.toList=k) (e2:parseE t2.data.toList=0) :
 endP (runP M st0 [[tPackage,c],[tFact,xa,xF1,tDash,t1],[tJournal,c],[tFact,xa,xF1,tDash,t2]])=ofL [⟨⟨c,xa,xF1,emp,0⟩,n⟩,⟨⟨c,xa,xF1,emp,1⟩,k⟩]:=by
 have hne:c≠emp:=nm_ne hn
 obtain ⟨p1,p2⟩:=h.pack (S:=st0) hn hc rfl
 rw [runP_cons _ p1,p2]
 obtain ⟨q1,q2⟩:=h.fact (S:=⟨c,0,[c],[]⟩) (fl:=xF1) (t:=t1) hne hc (by decide) h.f1 (by decide) h1 e1
 rw [show (⟨c,0,[c],st0.facts⟩:St)=⟨c,0,[c],[]⟩ from rfl,runP_cons _ q1,q2]
 obtain ⟨r1,r2⟩:=h.journal (S:=⟨c,0,[c],[]++[⟨⟨c,xa,xF1,emp,0⟩,n⟩]⟩) hn hc
 rw [runP_cons _ r1,r2]
 obtain ⟨s1,s2⟩:=h.fact (S:=⟨c,1,[c],[]++[⟨⟨c,xa,xF1,emp,0⟩,n⟩]⟩) (fl:=xF1) (t:=t2) hne hc (by decide) h.f1 (by decide) h2 e2
 rw [runP_cons _ s1,s2]
 show endP (⟨c,1,[c],_⟩,0)=_
 rw [endP_ok];rfl
end
end Go.Proofs.YtdegffffcbhjbaaGreatDoor.Pk
end
section
namespace Go.Proofs.YtdegffffcbhjbaaGreatDoor
open Go.RowKit
def Printed (u m:Nat) (t:List UInt8):Prop:=Lib.decDigits u=(if m=0 then [] else Lib.decDigits m)++t
theorem Printed.len {u m:Nat} {t:List UInt8} (h:Printed u m t) (hu:u < 18446744073709551616):t.length≤20:=by
 have h1:=congrArg List.length h
 rw [Lib.decDigits_length,List.length_append] at h1
 have:=Lib.nDigits_le20 u hu
 omega
theorem Printed.step {u m:Nat} {t:List UInt8} (h:Printed u m t) (hm:m≠0):Printed u (m / 10) (UInt8.ofNat (48+m % 10)::t):=by
 unfold Printed at h ⊢
 rw [if_neg hm] at h
 rw [h]
 by_cases h10:m < 10
 ·rw [if_pos (by omega),dec_small h10,show m % 10=m by omega];rfl
 ·rw [if_neg (by omega),dec_big h10];simp
theorem Printed.stop {u:Nat} {t:List UInt8} (h:Printed u 0 t):t=Lib.decDigits u:=by
 unfold Printed at h;simpa using h.symm
end Go.Proofs.YtdegffffcbhjbaaGreatDoor
end
section
namespace Go.Proofs.YtdegffffcbhjbaaGreatDoor.Pk
open Go.RowKit Go.Proofs.YtdegffffcbhjbaaGreatDoor.Un
def SoFar (u m:Nat) (t:List UInt8):Prop:=(t=[]∧m=u)∨(t≠[]∧Printed u m t)
theorem SoFar.step {u m:Nat} {t:List UInt8} (h:SoFar u m t) (hm:m≠0∨t=[]):SoFar u (m / 10) (UInt8.ofNat (48+m % 10)::t):=by
 rcases h with ⟨rfl,rfl⟩ | ⟨h1,h2⟩
 ·refine .inr ⟨by simp,?_⟩
  unfold Printed
  by_cases h10:m < 10
  ·rw [if_pos (by omega),dec_small h10,show m % 10=m by omega];rfl
  ·rw [if_neg (by omega),dec_big h10]
 ·exact .inr ⟨by simp,h2.step (hm.resolve_right h1)⟩
theorem SoFar.stop {u:Nat} {t:List UInt8} (h:SoFar u 0 t) (ht:t≠[]):t=Lib.decDigits u:=by
 rcases h with ⟨rfl,_⟩ | ⟨_,h2⟩
 ·exact absurd rfl ht
 ·exact h2.stop
theorem SoFar.len {u m:Nat} {t:List UInt8} (h:SoFar u m t) (hu:u < 18446744073709551616):t.length≤20:=by
 rcases h with ⟨rfl,_⟩ | ⟨_,h2⟩
 ·simp
 ·exact h2.len hu
theorem mkB_cons (c:UInt8) (t:List UInt8):(ByteArray.mk #[c])++mkB t=mkB (c::t):=by
 apply ByteArray.ext;simp [mkB]
theorem mkB_full (c:UInt8) (t:List UInt8):(mkB (c::t)).toList.isEmpty=false:=by rw [ByteArray.toList_eq];rfl
theorem mkB_void:(mkB []).toList.isEmpty=true:=by rw [ByteArray.toList_eq];rfl
theorem str_eq {a b:ByteArray} (h:a=b):Ending.returned (.string a)=.returned (.string b):=by rw [h]
theorem conv_digit (w:World) (v:Int) (d:UInt8) (h:(d.toNat:Int)=v):(convert 118 9 (.slice (some ⟨w.heap.size,0,none⟩) 1 1)).run Tryz.prog (w.alloc (.cells #[.int .u8 v] 5))=.ok (.string (mkB [d])) (w.alloc (.cells #[.int .u8 v] 5)) :=
 run_convert_bytes_back _ _ _ _ ⟨w.heap.size,0,none⟩ 1 [d] Tryz.underlying118 Tryz.underlying5 Tryz.underlying9 (fun j hj=>by
  have h0:j=0:=by simp at hj;exact hj
  subst h0
  simp [Addr.add,h])
theorem digit_val (m:Nat):((UInt8.ofNat (48+m % 10)).toNat:Int)=48+(m:Int) % 10:=by
 rw [UInt8.toNat_ofNat']
 omega
theorem mkB_one (d:UInt8) (t:List UInt8):mkB [d]++mkB t=mkB (d::t):=by
 apply ByteArray.ext;simp [mkB]
def sizeV:Value→Nat
 | .string x=>x.size
 | _=>0
set_option maxRecDepth 100000 in
set_option maxHeartbeats 2000000 in
theorem text_abs (a:Int) (u:Nat) (hu:u≤2147483648) (h:a=u∨(a=-(u:Int)∧0 < u)) (ha:-2147483648≤a∧a≤2147483647) (w:World) :
 Calls Tryz.prog 26 #[.int .i32 a] w fun e w'=>e=.returned (.string (mkB (Lib.itoa a)))∧Below w.heap.size w w':=by
 have HA:Hid ((a < 0→mkB (45::Lib.decDigits u)=mkB (Lib.itoa a))∧(¬ a < 0→mkB (Lib.decDigits u)=mkB (Lib.itoa a))):=Lib.hid (by
  constructor
  ·intro h0
   rw [Lib.itoa,if_pos h0,show a.natAbs=u by omega]
  ·intro h0
   rw [Lib.itoa,if_neg h0,show a.toNat=u by omega])
 obtain ⟨ha1,ha2⟩:=ha
 go_enter Tryz.func26,Tryz.ntmps26
 by_cases h0:a < 0
 ·have e:-a=(u:Int):=by omega
  clear h
  go_wp2
  go_loopw [3,4] (fun s3 s4 wr=>∃ (m:Nat) (t:List UInt8),s4=.int .i64 (m:Int)∧s3=.string (mkB t)∧m≤u∧Hid (SoFar u m t)∧Hid (Below w.heap.size w wr)) (fun s3 s4 _=>2 * (intOf s4).natAbs+(1 - sizeV s3))
  case atStart=>exact ⟨u,[],rfl,rfl,Nat.le_refl _,Lib.hid (.inl ⟨rfl,rfl⟩),Lib.hid (Below.refl _ _)⟩
  case round =>
   obtain ⟨m,t,rfl,rfl,hm,HT,HB⟩:=hrel
   have hle:t.length≤20:=HT.out.len (by omega)
   have hdv:=digit_val m
   have HSTEP:=Lib.hid (fun h=>HT.out.step h)
   obtain ⟨d,hd⟩:∃ d,UInt8.ofNat (48+m % 10)=d:=⟨_,rfl⟩
   rw [hd] at hdv HSTEP
   clear hd
   have HV:=Lib.hid (conv_digit wr _ d hdv)
   clear hdv
   have HBN:=Lib.hid (HB.out.alloc HB.out.size (.cells #[.int .u8 (48+(m:Int) % 10)] 5))
   have hdl:(mkB [d]).size=1:=rfl
   have hsz:(mkB t).size≤20:=by rw [mkB_size];exact hle
   by_cases hm0:m=0
   ·cases t with
    | nil =>
      have he:=mkB_void
      subst hm0
      have hv:=HV.out
      simp only [show (48+((0:Nat):Int) % 10)=48 from rfl] at hv
      go_wp2
      all_goals
       go_round
       case rel=>exact ⟨0,[d],rfl,by rw [mkB_one],Nat.zero_le _,Lib.hid (HSTEP.out (.inr rfl)),HBN⟩
       case measure=>simp [sizeV,intOf,mkB_size];try omega
    | cons c t =>
      have he:=mkB_full c t
      subst hm0
      go_wp2
      all_goals
       go_ret
       refine ⟨str_eq ?_,HB.out⟩
       rw [←HA.out.1 h0,←HT.out.stop (by simp)]
       exact mkB_cons _ _
   ·have hv:=HV.out
    have hg:decide (0 < m)=true:=by simp;omega
    have hp:(0:Int) < m:=by omega
    go_wp2
    all_goals
     go_round
     case rel=>exact ⟨m / 10,d::t,by go_num,by rw [mkB_one],by omega,Lib.hid (HSTEP.out (.inl hm0)),HBN⟩
     case measure=>simp [sizeV,intOf,mkB_size];try omega
 ·have e:a=(u:Int):=by omega
  subst e
  clear h
  go_wp2
  go_loopw [3,4] (fun s3 s4 wr=>∃ (m:Nat) (t:List UInt8),s4=.int .i64 (m:Int)∧s3=.string (mkB t)∧m≤u∧Hid (SoFar u m t)∧Hid (Below w.heap.size w wr)) (fun s3 s4 _=>2 * (intOf s4).natAbs+(1 - sizeV s3))
  case atStart=>exact ⟨u,[],rfl,rfl,Nat.le_refl _,Lib.hid (.inl ⟨rfl,rfl⟩),Lib.hid (Below.refl _ _)⟩
  case round =>
   obtain ⟨m,t,rfl,rfl,hm,HT,HB⟩:=hrel
   have hle:t.length≤20:=HT.out.len (by omega)
   have hdv:=digit_val m
   have HSTEP:=Lib.hid (fun h=>HT.out.step h)
   obtain ⟨d,hd⟩:∃ d,UInt8.ofNat (48+m % 10)=d:=⟨_,rfl⟩
   rw [hd] at hdv HSTEP
   clear hd
   have HV:=Lib.hid (conv_digit wr _ d hdv)
   clear hdv
   have HBN:=Lib.hid (HB.out.alloc HB.out.size (.cells #[.int .u8 (48+(m:Int) % 10)] 5))
   have hdl:(mkB [d]).size=1:=rfl
   have hsz:(mkB t).size≤20:=by rw [mkB_size];exact hle
   by_cases hm0:m=0
   ·cases t with
    | nil =>
      have he:=mkB_void
      subst hm0
      have hv:=HV.out
      simp only [show (48+((0:Nat):Int) % 10)=48 from rfl] at hv
      go_wp2
      all_goals
       go_round
       case rel=>exact ⟨0,[d],rfl,by rw [mkB_one],Nat.zero_le _,Lib.hid (HSTEP.out (.inr rfl)),HBN⟩
       case measure=>simp [sizeV,intOf,mkB_size];try omega
    | cons c t =>
      have he:=mkB_full c t
      subst hm0
      go_wp2
      all_goals
       go_ret
       refine ⟨str_eq ?_,HB.out⟩
       rw [←HA.out.2 (by omega),←HT.out.stop (by simp)]
   ·have hv:=HV.out
    have hg:decide (0 < m)=true:=by simp;omega
    have hp:(0:Int) < m:=by omega
    go_wp2
    all_goals
     go_round
     case rel=>exact ⟨m / 10,d::t,by go_num,by rw [mkB_one],by omega,Lib.hid (HSTEP.out (.inl hm0)),HBN⟩
     case measure=>simp [sizeV,intOf,mkB_size];try omega
theorem text_any (a:Int) (ha:-2147483648≤a∧a≤2147483647) (w:World) :
 Calls Tryz.prog 26 #[.int .i32 a] w fun e w'=>e=.returned (.string (mkB (Lib.itoa a)))∧Below w.heap.size w w' :=
 text_abs a a.natAbs (by omega) (by omega) ha w
end Go.Proofs.YtdegffffcbhjbaaGreatDoor.Pk
end
section
namespace Go.Proofs.YtdegffffcbhjbaaGreatDoor.Pk
open Go.RowKit Go.Maps Go.Proofs.YtdegffffcbhjbaaGreatDoor.Un
theorem dec_right (u:Nat):(Lib.decDigits u).all rwB=true:=by
 have:=digs_dec u
 unfold digs at this
 rw [List.all_eq_true] at this ⊢
 intro x hx
 have:=(dig_iff x).1 (this x hx)
 unfold rwB
 rw [decide_eq_true_eq]
 omega
theorem itoa_right (n:Int):rightL (mkB (Lib.itoa n)).data.toList=true:=by
 rw [mkB_data]
 unfold rightL
 rw [decide_eq_true (itoa_ne_nil n),Bool.true_and]
 unfold Lib.itoa
 split
 ·rw [List.all_cons,dec_right];rfl
 ·exact dec_right _
def marksL (c:ByteArray) (n k:Int):List (List ByteArray):=[[tPackage,c],[tFact,xa,xF1,tDash,mkB (Lib.itoa n)],[tJournal,c],[tFact,xa,xF1,tDash,mkB (Lib.itoa k)]]
def marksT (c:ByteArray) (n k:Int):ByteArray:=mkB (textW (marksL c n k))
theorem marksT_eq (c:ByteArray) (n k:Int):(⟨#[112,97,99,107,97,103,101,32]⟩:ByteArray)++c++⟨#[10,102,97,99,116,32,97,32,70,49,32,45,32]⟩++mkB (Lib.itoa n)++⟨#[10,106,111,117,114,110,97,108,32]⟩++c++⟨#[10,102,97,99,116,32,97,32,70,49,32,45,32]⟩++mkB (Lib.itoa k)++⟨#[10]⟩=marksT c n k:=by
 apply Fa.data_inj'
 unfold marksT
 rw [mkB_data]
 simp only [ByteArray.data_append,Array.toList_append,mkB_data]
 unfold textW marksL lineL Lib.join
 simp [List.intercalate,tPackage,tJournal,tFact,tDash,mkB_data]
theorem marks_sizes (c:ByteArray) (n k:Int) (hc:c.size=2) (hn:In64 n) (hk:In64 k):(marksT c n k).size≤200:=by
 rw [←marksT_eq]
 have h1:=Lib.itoa_length_le n hn.1 hn.2
 have h2:=Lib.itoa_length_le k hk.1 hk.2
 simp only [ByteArray.size_append,mkB_size,hc]
 have e1:(⟨#[112,97,99,107,97,103,101,32]⟩:ByteArray).size=8:=rfl
 have e2:(⟨#[10,102,97,99,116,32,97,32,70,49,32,45,32]⟩:ByteArray).size=13:=rfl
 have e3:(⟨#[10,106,111,117,114,110,97,108,32]⟩:ByteArray).size=9:=rfl
 have e4:(⟨#[10]⟩:ByteArray).size=1:=rfl
 omega
def keyN (c:ByteArray) (m:Int):Fa.Key:=⟨c,xa,xF1,emp,m⟩
theorem marks_parse {M:Mast} (h:SmallM true M) {c:ByteArray} (hc:c=xE1∨c=xE2) {n k:Int} (hn:In32 n) (hk:In32 k) :
 parseP M (marksT c n k)=(Fa.cube [⟨keyN c 0,n⟩,⟨keyN c 1,k⟩],0)∧Fa.getL (Fa.cube [⟨keyN c 0,n⟩,⟨keyN c 1,k⟩]) (keyN c 0)=n∧Fa.getL (Fa.cube [⟨keyN c 0,n⟩,⟨keyN c 1,k⟩]) (keyN c 1)=k:=by
 have hn6:In64 n:=⟨by have:=hn.1;omega,by have:=hn.2;omega⟩
 have hk6:In64 k:=⟨by have:=hk.1;omega,by have:=hk.2;omega⟩
 have hnm:nmB c=true:=by rcases hc with rfl | rfl <;> decide
 have hhe:hasE M c=true:=by
  rcases hc with rfl | rfl
  ·exact h.e1
  ·exact h.e2
 have hcr:rightL c.data.toList=true:=by rcases hc with rfl | rfl <;> decide
 have hcs:c.size=2:=by rcases hc with rfl | rfl <;> rfl
 obtain ⟨p1,p2⟩:=parse_itoa (fit_of_in64 hn6)
 obtain ⟨q1,q2⟩:=parse_itoa (fit_of_in64 hk6)
 refine ⟨?_,?_,?_⟩
 ·unfold marksT
  rw [text_parse]
  ·unfold marksL
   rw [h.both hnm hhe (n:=n) (k:=k) (by rw [mkB_data];exact p1) (by rw [mkB_data];exact p2) (by rw [mkB_data];exact q1) (by rw [mkB_data];exact q2)]
   refine Fa.ofL_small ?_ (by simp)
   intro f hf
   simp only [List.mem_cons,List.not_mem_nil,or_false] at hf
   obtain ⟨n1,n2⟩:=hn
   obtain ⟨k1,k2⟩:=hk
   rcases hf with rfl | rfl
   ·exact ⟨by show _≤n;omega,by show n≤_;omega⟩
   ·exact ⟨by show _≤k;omega,by show k≤_;omega⟩
  ·intro ws hws
   unfold marksL at hws
   simp only [List.mem_cons,List.not_mem_nil,or_false] at hws
   rcases hws with rfl | rfl | rfl | rfl
   all_goals
    refine ⟨by simp,fun x hx=>?_⟩
    simp only [List.mem_cons,List.not_mem_nil,or_false] at hx
   ·rcases hx with rfl | rfl
    ·decide
    ·exact hcr
   ·rcases hx with rfl | rfl | rfl | rfl | rfl
    any_goals decide
    exact itoa_right _
   ·rcases hx with rfl | rfl
    ·decide
    ·exact hcr
   ·rcases hx with rfl | rfl | rfl | rfl | rfl
    any_goals decide
    exact itoa_right _
  ·have:=marks_sizes c n k hcs hn6 hk6
   unfold marksT at this
   rw [mkB_size,textW_length] at this
   omega
 all_goals
  rw [Fa.getL_cube,Fa.isum_cons,Fa.isum_cons]
  simp [keyN,Fa.isum,Fa.amts]
theorem two_cells (W:World) (g:Nat) (hg:g=W.heap.size) (x y:Value) (t:TypeId):(W.alloc (.cells #[x,y] t)).cell? ⟨g,0,none⟩=some x∧(W.alloc (.cells #[x,y] t)).cell? ⟨g,1,none⟩=some y:=by
 exact ⟨by rw [World.cell?_alloc_at _ _ _ _ hg];rfl,by rw [World.cell?_alloc_at _ _ _ _ hg];rfl⟩
theorem box_mk {W:World} {g:Nat} {t:TypeId} {k:Fa.Key} (h:BoxE Fa.encK W g t k) (m:Int):BoxE Fa.encK (W.setCell ⟨g,4,none⟩ (.int .i64 m)) g t ⟨k.e,k.a,k.f,k.p,m⟩:=by
 unfold BoxE at h ⊢
 rw [Joins.block_setCell h]
 rfl
theorem box_live {α:Type} {E:Enc α} {W:World} {g:Nat} {t:TypeId} {k:α} (h:BoxE E W g t k) (o:Nat):W.frozen? ⟨g,o,none⟩=false:=by simp [World.frozen?,show W.heap[g]?=_ from h]
set_option maxRecDepth 100000 in
set_option maxHeartbeats 16000000 in
theorem packMarks_walk (n k e0:Int) (w:World) (hn:In32 n) (hk:In32 k) (he:InU8 e0) (hU:LaidP w):Calls Tryz.prog 9 #[.int .i32 n,.int .i32 k,.int .u8 e0] w fun en w'=>en=.returned (.bool true)∧Below w.heap.size w w':=by
 have HL:=Lib.hid hU
 clear hU
 go_enter Tryz.func9,Tryz.ntmps9
 go_wp2_with fail
 refine (alive11_any _ HL.out).mono ?_
 rintro en w1 ⟨rfl,hb1⟩
 have HB1:=Lib.hid hb1
 have HL1:=Lib.hid (HL.out.keep hb1)
 clear hb1
 go_wp2_with fail
 refine (parse_smallP true _ (by kernel_rfl) _ HL1.out).mono ?_
 rintro en w2 ⟨M,c,f,e,l,hS,rfl,hm,hb1⟩
 obtain ⟨pc,cc,pf,cf,pe,ce,pl,cl,rfl,rfl,rfl,rfl⟩:=shapes hm
 have HS:=Lib.hid hS
 have hb2:=(Below.refl w2.heap.size w2).alloc (Nat.le_refl _) (.cells (cellsM (.slice pc M.chart.length cc) (.slice pf M.flows.length cf) (.slice pe M.ents.length ce) (.slice pl M.lines.length cl) M) 30)
 have hb3:=hb2.alloc hb2.size (.cells #[.string ⟨#[69,49]⟩,.string ⟨#[69,50]⟩] 9)
 have HB12:=Lib.hid (HB1.out.trans (hb1.mono HB1.out.size))
 have HB2:=Lib.hid (HB12.out.trans (hb3.mono HB12.out.size))
 have HN2:=Lib.hid ((nine_new w2 (.slice pc M.chart.length cc) (.slice pf M.flows.length cf) (.slice pe M.ents.length ce) (.slice pl M.lines.length cl) M 30).kept ((Below.refl _ _).alloc (Nat.le_refl _) (.cells #[.string ⟨#[69,49]⟩,.string ⟨#[69,50]⟩] 9)))
 have HM2:=Lib.hid (hm.keep hb3)
 have HL2:=Lib.hid (HL.out.keep HB2.out)
 have HPP:=Lib.hid (fun c (hc:c=xE1∨c=xE2)=>marks_parse hS hc hn hk)
 have HPA:=Lib.hid (fun s W h hL hs=>pparse_any (.slice pc M.chart.length cc) (.slice pf M.flows.length cf) (.slice pe M.ents.length ce) (.slice pl M.lines.length cl) M s W h hS.sane hL hs)
 clear hm hb1 hb2 hb3 hS HB1 HL1 HB12 HL
 have HE:=Lib.hid he
 obtain ⟨he1,he2⟩:=he
 have HC:Hid (∃ c r,(c=xE1∨c=xE2)∧e0 % 2=(r:Nat)∧((w2.alloc (.cells (cellsM (.slice pc M.chart.length cc) (.slice pf M.flows.length cf) (.slice pe M.ents.length ce) (.slice pl M.lines.length cl) M) 30)).alloc (.cells #[.string ⟨#[69,49]⟩,.string ⟨#[69,50]⟩] 9)).cell? ⟨w2.heap.size+1,r,none⟩=some (.string c)):=Lib.hid (by
  have hq:e0 % 2=0∨e0 % 2=1:=by omega
  rcases hq with hq | hq
  ·exact ⟨xE1,0,.inl rfl,hq,(two_cells _ _ (by rw [World.size_alloc]) _ _ _).1⟩
  ·exact ⟨xE2,1,.inr rfl,hq,(two_cells _ _ (by rw [World.size_alloc]) _ _ _).2⟩)
 obtain ⟨c,r,hc,hr,hcell⟩:=HC.out
 have hcs:c.size=2:=by rcases hc with rfl | rfl <;> rfl
 obtain ⟨hp1,hp2,hp3⟩:=HPP.out c hc
 have hn6:In64 n:=⟨by have:=hn.1;omega,by have:=hn.2;omega⟩
 have hk6:In64 k:=⟨by have:=hk.1;omega,by have:=hk.2;omega⟩
 have HSZ:=Lib.hid (marks_sizes c n k hcs hn6 hk6)
 have HEQ:=Lib.hid (marksT_eq c n k)
 have hln:(mkB (Lib.itoa n)).size≤21:=by rw [mkB_size];exact Lib.itoa_length_le n hn6.1 hn6.2
 have hlk:(mkB (Lib.itoa k)).size≤21:=by rw [mkB_size];exact Lib.itoa_length_le k hk6.1 hk6.2
 have HTN:=Lib.hid (fun W=>text_any n hn W)
 have HTK:=Lib.hid (fun W=>text_any k hk W)
 obtain ⟨tn,htn⟩:∃ t,mkB (Lib.itoa n)=t:=⟨_,rfl⟩
 obtain ⟨tk,htk⟩:∃ t,mkB (Lib.itoa k)=t:=⟨_,rfl⟩
 rw [htn] at hln HEQ
 rw [htk] at hlk HEQ
 simp only [htn] at HTN
 simp only [htk] at HTK
 obtain ⟨ms,hms⟩:∃ t,marksT c n k=t:=⟨_,rfl⟩
 rw [hms] at HSZ HEQ hp1
 obtain ⟨C,hC⟩:∃ C,Fa.cube [⟨keyN c 0,n⟩,⟨keyN c 1,k⟩]=C:=⟨_,rfl⟩
 have HR:Hid (Fa.RiseF C∧C.length≤1000):=Lib.hid (by
  rw [←hC]
  refine ⟨Fa.cube_rise _,?_⟩
  have:=Fa.cube_length [⟨keyN c 0,n⟩,⟨keyN c 1,k⟩]
  simp only [List.length_cons,List.length_nil] at this
  omega)
 rw [hC] at hp1 hp2 hp3
 have HP1:=Lib.hid hp1
 have HP2:=Lib.hid hp2
 have HP3:=Lib.hid hp3
 clear hc hn6 hk6 htn htk hms hC hp1 hp2 hp3 HPP HC
 go_wp2_with fail
 refine (HTN.out _).mono ?_
 rintro en w3 ⟨rfl,hb3⟩
 have HB3:=Lib.hid (HB2.out.trans (hb3.mono HB2.out.size))
 have HM3:=Lib.hid (HM2.out.keep hb3)
 have HN3:=Lib.hid (HN2.out.kept hb3)
 have HL3:=Lib.hid (HL2.out.keep hb3)
 clear hb3 HB2 HM2 HN2 HL2 hcell
 go_wp2_with fail
 refine (HTK.out _).mono ?_
 rintro en w4 ⟨rfl,hb4⟩
 have HB4:=Lib.hid (HB3.out.trans (hb4.mono HB3.out.size))
 have HM4:=Lib.hid (HM3.out.keep hb4)
 have HN4:=Lib.hid (HN3.out.kept hb4)
 have HL4:=Lib.hid (HL3.out.keep hb4)
 clear hb4 HB3 HM3 HN3 HL3
 obtain ⟨k0,k1,k2,k3,k4,k5,k6,k7,k8⟩:=HN4.out
 go_wp2_with fail
 clear k0 k1 k2 k3 k4 k5 k6 k7 k8
 rw [HEQ.out]
 clear HEQ hln hlk
 have HPX:=Lib.hid (HPA.out ms _ HM4.out HL4.out.2.2 (by have:=HSZ.out;omega))
 rw [HP1.out] at HPX
 clear HPA HP1 HSZ
 refine HPX.out.mono ?_
 rintro en w5 ⟨u5,rfl,hf5,hb5⟩
 have HB5:=Lib.hid (HB4.out.trans (hb5.mono HB4.out.size))
 have hb6:=(Below.refl w5.heap.size w5).alloc (Nat.le_refl _) (.cells (kCells (keyN c 0)) 56)
 have HB6:=Lib.hid (HB5.out.trans (hb6.mono HB5.out.size))
 have HF6:Hid (Fa.FactsV _ u5 C):=Lib.hid (ElsV.keep hf5 hb6)
 have HK6:Hid (BoxE Fa.encK (w5.alloc (.cells (kCells (keyN c 0)) 56)) w5.heap.size 56 (keyN c 0)):=Lib.hid (BoxE.new Fa.encK w5 (keyN c 0) 56)
 have HG6:=Lib.hid (Fa.get_any u5 C (keyN c 0) _ HF6.out HR.out.1 HR.out.2)
 rw [HP2.out] at HG6
 have HF5:=Lib.hid hf5
 have HB56:=Lib.hid hb6
 clear hf5 hb5 hb6 HB4 HM4 HN4 HL4 HPX
 go_wp2_with fail
 refine HG6.out.mono ?_
 rintro en w7 ⟨rfl,hb7⟩
 have HB57:=Lib.hid (HB56.out.trans (hb7.mono HB56.out.size))
 have HK7:=Lib.hid (HK6.out.kept hb7)
 have hb8:=HB57.out.setCell (p:=⟨w5.heap.size,4,none⟩) (Nat.le_refl _) (.int .i64 1)
 have HB8:=Lib.hid (HB5.out.trans (hb8.mono HB5.out.size))
 have HF8:Hid (Fa.FactsV _ u5 C):=Lib.hid (ElsV.keep HF5.out hb8)
 have HK8:=Lib.hid (box_mk HK7.out 1)
 have HG8:=Lib.hid (Fa.get_any u5 C (keyN c 1) _ HF8.out HR.out.1 HR.out.2)
 rw [HP3.out] at HG8
 have hfz:=box_live HK7.out 4
 obtain ⟨y0,y1,y2,y3,y4⟩:=Fa.key5 HK7.out.at0
 obtain ⟨z0,z1,z2,z3,z4⟩:=Fa.key5 HK8.out.at0
 simp only [Nat.zero_add] at y0 y1 y2 y3 y4 z0 z1 z2 z3 z4
 clear hb7 hb8 HB56 HB57 HF8 HF5 HK6 HF6 HB6 HG6
 obtain ⟨hn1,hn2⟩:=hn
 obtain ⟨hk1,hk2⟩:=hk
 go_wp2_with fail
 refine HG8.out.mono ?_
 rintro en w9 ⟨rfl,hb9⟩
 have HB9:=Lib.hid (HB8.out.trans (hb9.mono HB8.out.size))
 clear hb9
 go_wp2
 go_ret
 exact ⟨rfl,HB9.out⟩
end Go.Proofs.YtdegffffcbhjbaaGreatDoor.Pk
end
