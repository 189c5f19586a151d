/- FlowSearch -/
import Derived.Deep.LoopGhost
import Derived.Handy
import Derived.Lib.Bytealg
import Derived.Lib.Walk
import Derived.LoopTactic
import Derived.Test.YthcpglnmhimepaaGreatDoorS03
namespace Go.Proofs.YthcpglnmhimepaaGreatDoor.Fl
open Go.RowKit
def cmpB (x y:ByteArray):Int:=Lib.compareBytes x.data.toList y.data.toList
theorem cmpL_lt:∀ (x y:List UInt8),Lib.compareBytes x y < 0 ↔ Op.bytesLess x y=true
 | [],[]=>by simp [Lib.compareBytes,Op.bytesLess]
 | [],_::_=>by simp [Lib.compareBytes,Op.bytesLess]
 | _::_,[]=>by simp [Lib.compareBytes,Op.bytesLess]
 | a::x,b::y=>by
   have ih:=cmpL_lt x y
   unfold Lib.compareBytes Op.bytesLess
   by_cases h1:a < b
   ·simp [h1]
   ·by_cases h2:b < a
    ·have:(a==b)=false:=by
      rw [beq_eq_false_iff_ne]
      rintro rfl
      exact h1 h2
     simp [h1,h2,this]
    ·have:a=b:=by
      rw [UInt8.lt_iff_toNat_lt] at h1 h2
      exact UInt8.toNat_inj.1 (by omega)
     subst this
     simp [h1,ih]
theorem cmpL_eq0:∀ (x y:List UInt8),Lib.compareBytes x y=0 ↔ x=y
 | [],[]=>by simp [Lib.compareBytes]
 | [],_::_=>by simp [Lib.compareBytes]
 | _::_,[]=>by simp [Lib.compareBytes]
 | a::x,b::y=>by
   have ih:=cmpL_eq0 x y
   unfold Lib.compareBytes
   by_cases h1:a < b
   ·have:a≠b:=by
     rintro rfl
     rw [UInt8.lt_iff_toNat_lt] at h1;omega
    simp [h1,this]
   ·by_cases h2:b < a
    ·have:a≠b:=by
      rintro rfl
      exact h1 h2
     simp [h1,h2,this]
    ·have:a=b:=by
      rw [UInt8.lt_iff_toNat_lt] at h1 h2
      exact UInt8.toNat_inj.1 (by omega)
     subst this
     simp [h1,ih]
theorem cmpB_lt (x y:ByteArray):decide (cmpB x y < 0)=ltS x y:=by
 rw [Bool.eq_iff_iff,decide_eq_true_eq]
 unfold cmpB ltS
 rw [cmpL_lt,ByteArray.toList_eq,ByteArray.toList_eq]
theorem cmpB_eq (x y:ByteArray):(cmpB x y==0)=decide (x=y):=by
 rw [Bool.eq_iff_iff,beq_iff_eq,decide_eq_true_eq]
 unfold cmpB
 rw [cmpL_eq0]
 exact ⟨fun h=>toList_inj (by rw [ByteArray.toList_eq,ByteArray.toList_eq];exact h),fun h=>by rw [h]⟩
set_option maxHeartbeats 1000000 in
set_option maxRecDepth 100000 in
theorem compareString_any (a b:ByteArray) (w:World) :
 Calls Tryz.prog 135 #[.string a,.string b] w fun e w'=>e=.returned (.int .i64 (cmpB a b))∧w'=w:=by
 go_enter Tryz.func135,Tryz.ntmps135
 go_wp2
 rw [run_callFunc_extern Tryz.func162 (by kernel_rfl) (by kernel_rfl) (by kernel_rfl) (e:=Extern.BytealgCompare.compare) (by kernel_rfl),Lib.run_compareString]
 simp only [Result.andThen]
 rw [Oper.upon_value]
 go_wp2
 go_ret
 exact ⟨rfl,rfl⟩
set_option maxHeartbeats 1000000 in
theorem compare_any (a b:ByteArray) (w:World) :
 Calls Tryz.prog 99 #[.string a,.string b] w fun e w'=>e=.returned (.int .i64 (cmpB a b))∧w'=w:=by
 go_enter Tryz.func99,Tryz.ntmps99
 go_wp2_with (go_at_call 135;refine (compareString_any _ _ _).mono ?_;rintro e w' ⟨rfl,rfl⟩)
 go_ret
 exact ⟨rfl,rfl⟩
set_option maxHeartbeats 1000000 in
theorem against_any (f:Flow) (c:ByteArray) (w:World) :
 Calls Tryz.prog 134 #[aggL f,.string c] w fun e w'=>e=.returned (.int .i64 (cmpB f.code c))∧Below w.heap.size w w':=by
 have HB:=Lib.hid ((Below.refl w.heap.size w).alloc (Nat.le_refl _) (.cells #[.string f.code,.int .i64 f.kind] 70))
 go_enter Tryz.func134,Tryz.ntmps134
 go_wp2_with (go_at_call 99;refine (compare_any _ _ _).mono ?_;rintro e w' ⟨rfl,rfl⟩)
 go_ret
 exact ⟨rfl,HB.out⟩
structure SearchAt (w wr:World) (L:List Flow) (c:ByteArray) (lo hi:Nat):Prop where
 le:lo≤hi
 top:hi≤L.length
 bel:Below w.heap.size w wr
 low:∀ (t:Nat) (x:Flow),t < lo→L[t]?=some x→ltS x.code c=true
 high:∀ (t:Nat) (x:Flow),hi≤t→L[t]?=some x→ltS x.code c=false
set_option maxRecDepth 100000 in
set_option maxHeartbeats 4000000 in
theorem search_any (v:Value) (L:List Flow) (c:ByteArray) (w:World) (h:FlowsV w v L) (hr:riseK Flow.code L=true) (hL:L.length≤1000) :
 Calls Tryz.prog 133 #[v,.string c,.func (.func 134) #[] #[]] w fun e w'=>e=.returned (.tuple #[.int .i64 (placeK Flow.code L c:Nat),.bool (isK Flow.code L c)])∧Below w.heap.size w w':=by
 obtain ⟨p,cap,rfl,hcap,hm,_,hc⟩:=h
 obtain ⟨n,hn⟩:∃ n,L.length=n:=⟨_,rfl⟩
 obtain ⟨pl,hpl⟩:∃ pl,placeK Flow.code L c=pl:=⟨_,rfl⟩
 obtain ⟨is,his⟩:∃ is,isK Flow.code L c=is:=⟨_,rfl⟩
 rw [hn] at hcap hL ⊢
 rw [hpl,his]
 have HC:=Lib.hid hc
 have HN:=Lib.hid hn
 have HPL:=Lib.hid hpl
 have HIS:=Lib.hid his
 have HRI:=Lib.hid hr
 unfold maxLen at hm
 clear hc hn hpl his hr
 go_enter Tryz.func133,Tryz.ntmps133
 go_wp2
 go_loopg [9,10] n (fun kx s9 s10 wr=>∃ lo hi:Nat,s9=.int .i64 (lo:Int)∧s10=.int .i64 (hi:Int)∧hi - lo≤kx∧lo≤hi∧hi≤n∧Hid (SearchAt w wr L c lo hi))
 case atStart=>exact ⟨0,n,rfl,rfl,by omega,Nat.zero_le _,Nat.le_refl _,Lib.hid ⟨Nat.zero_le _,by rw [HN.out];exact Nat.le_refl _,Below.refl _ _,fun t x ht=>absurd ht (Nat.not_lt_zero _),fun t x ht hx=>by
  have:=(List.getElem?_eq_some_iff.1 hx).1
  rw [HN.out] at this;omega⟩⟩
 case round =>
  obtain ⟨lo,hi,rfl,rfl,hkx,hlh,hin,HA⟩:=hrel
  by_cases hlt:lo < hi
  ·have hmid:(lo+hi) / 2 < n:=by omega
   obtain ⟨x,hx⟩:∃ x,L[(lo+hi) / 2]?=some x:=⟨_,List.getElem?_eq_getElem (by rw [HN.out];exact hmid)⟩
   obtain ⟨b,o,rfl,hat⟩:=HC.out _ x hx
   obtain ⟨c0,c1⟩:=two (hat.keep HA.out.bel hat.lt)
   have HX:=Lib.hid hx
   clear hx hat
   have HAG:=Lib.hid (against_any x c wr)
   obtain ⟨m,hmm⟩:∃ m,cmpB x.code c=m:=⟨_,rfl⟩
   have HM:=Lib.hid (cmpB_lt x.code c)
   rw [hmm] at HAG HM
   clear hmm
   by_cases hm0:m < 0
   ·have HLT:Hid (ltS x.code c=true):=Lib.hid (by rw [←HM.out];exact decide_eq_true hm0)
    go_wp2_with (go_at_call 134;refine HAG.out.mono ?_;rintro e w' ⟨rfl,hb'⟩)
    go_roundg (hi - ((lo+hi) / 2+1))
    case measure=>omega
    case rel=>exact ⟨(lo+hi) / 2+1,hi,by rw [show ((lo:Int)+(hi:Int)) / 2+1=(((lo+hi) / 2+1:Nat):Int) by omega],rfl,Nat.le_refl _,by omega,hin,Lib.hid ⟨by omega,HA.out.top,HA.out.bel.trans (hb'.mono HA.out.bel.size),fun t y ht hy=>by
     rcases Nat.lt_or_ge t ((lo+hi) / 2) with h | h
     ·exact ltS_trans (riseK_at HRI.out h hy HX.out) HLT.out
     ·obtain rfl:t=(lo+hi) / 2:=by omega
      rw [HX.out] at hy;cases hy;exact HLT.out,HA.out.high⟩⟩
   ·have HLT:Hid (ltS x.code c=false):=Lib.hid (by rw [←HM.out];exact decide_eq_false hm0)
    go_wp2_with (go_at_call 134;refine HAG.out.mono ?_;rintro e w' ⟨rfl,hb'⟩)
    go_roundg ((lo+hi) / 2 - lo)
    case measure=>omega
    case rel=>exact ⟨lo,(lo+hi) / 2,rfl,by rw [show ((lo:Int)+(hi:Int)) / 2=(((lo+hi) / 2:Nat):Int) by omega],Nat.le_refl _,by omega,by omega,Lib.hid ⟨by omega,by have:=HA.out.top;omega,HA.out.bel.trans (hb'.mono HA.out.bel.size),HA.out.low,fun t y ht hy=>by
     rcases Nat.lt_or_ge ((lo+hi) / 2) t with h | h
     ·cases hy':ltS y.code c with
      | false=>rfl
      | true=>rw [ltS_trans (riseK_at HRI.out h HX.out hy) hy'] at HLT;cases HLT.out
     ·obtain rfl:t=(lo+hi) / 2:=by omega
      rw [HX.out] at hy;cases hy;exact HLT.out⟩⟩
  ·obtain rfl:hi=lo:=by omega
   have hpl:Hid (pl=hi):=Lib.hid (by
    rw [←HPL.out]
    exact placeK_at HA.out.top HA.out.low (fun y hy=>HA.out.high hi y (Nat.le_refl _) hy))
   by_cases hn:hi < n
   ·obtain ⟨x,hx⟩:∃ x,L[hi]?=some x:=⟨_,List.getElem?_eq_getElem (by rw [HN.out];exact hn)⟩
    obtain ⟨b,o,rfl,hat⟩:=HC.out _ x hx
    obtain ⟨c0,c1⟩:=two (hat.keep HA.out.bel hat.lt)
    have HX:=Lib.hid hx
    clear hx hat
    have HAG:=Lib.hid (against_any x c wr)
    obtain ⟨m,hmm⟩:∃ m,cmpB x.code c=m:=⟨_,rfl⟩
    have HM:=Lib.hid (cmpB_eq x.code c)
    rw [hmm] at HAG HM
    clear hmm
    have HI2:Hid (is=(m==0)):=Lib.hid (by
     rw [←HIS.out,HM.out]
     unfold isK
     rw [HPL.out,hpl.out,HX.out])
    go_wp2_with (go_at_call 134;refine HAG.out.mono ?_;rintro e w' ⟨rfl,hb'⟩)
    go_ret2
    exact ⟨by rw [hpl.out,HI2.out];rfl,HA.out.bel.trans (hb'.mono HA.out.bel.size)⟩
   ·have HI2:Hid (is=false):=Lib.hid (by
     rw [←HIS.out]
     unfold isK
     rw [HPL.out,hpl.out,List.getElem?_eq_none (by rw [HN.out];omega)])
    go_wp2
    go_ret2
    exact ⟨by rw [hpl.out,HI2.out];rfl,HA.out.bel⟩
set_option maxRecDepth 100000 in
set_option maxHeartbeats 4000000 in
theorem place_any (v:Value) (L:List Flow) (c:ByteArray) (w:World) (h:FlowsV w v L) (hr:riseK Flow.code L=true) (hL:L.length≤1000) :
 Calls Tryz.prog 97 #[v,.string c] w fun e w'=>e=.returned (.tuple #[.int .i64 (placeK Flow.code L c:Nat),.bool (isK Flow.code L c)])∧Below w.heap.size w w':=by
 have HS:=Lib.hid (search_any v L c w h hr hL)
 obtain ⟨pl,hpl⟩:∃ pl,placeK Flow.code L c=pl:=⟨_,rfl⟩
 obtain ⟨is,his⟩:∃ is,isK Flow.code L c=is:=⟨_,rfl⟩
 rw [hpl,his] at HS ⊢
 clear hpl his h hr
 go_enter Tryz.func97,Tryz.ntmps97
 go_wp2_with (go_at_call 133;refine HS.out.mono ?_;rintro e w' ⟨rfl,hb'⟩)
 go_ret2
 exact ⟨rfl,hb'⟩
set_option maxRecDepth 100000 in
set_option maxHeartbeats 4000000 in
theorem kind_any (v:Value) (L:List Flow) (c:ByteArray) (w:World) (h:FlowsV w v L) (hr:riseK Flow.code L=true) (hL:L.length≤1000) :
 Calls Tryz.prog 59 #[v,.string c] w fun e w'=>e=.returned (.tuple #[.int .i64 (kindL L c),.bool (isK Flow.code L c)])∧Below w.heap.size w w':=by
 have HP:=Lib.hid (place_any v L c w h hr hL)
 obtain ⟨pl,hpl⟩:∃ pl,placeK Flow.code L c=pl:=⟨_,rfl⟩
 obtain ⟨is,his⟩:∃ is,isK Flow.code L c=is:=⟨_,rfl⟩
 obtain ⟨k,hk⟩:∃ k,kindL L c=k:=⟨_,rfl⟩
 rw [hpl,his] at HP
 rw [his,hk]
 have HPL:=Lib.hid hpl
 have HIS:=Lib.hid his
 have HK:=Lib.hid hk
 obtain ⟨p,cap,rfl,hcap,hm,_,hc⟩:=h
 unfold maxLen at hm
 have HC:=Lib.hid hc
 clear hpl his hk hc hr
 cases is with
 | false =>
   have hk0:Hid (k=0):=Lib.hid (by rw [←HK.out];unfold kindL;rw [HIS.out];rfl)
   go_enter Tryz.func59,Tryz.ntmps59
   go_wp2_with (go_at_call 97;refine HP.out.mono ?_;rintro e w' ⟨rfl,hb'⟩)
   go_ret2
   exact ⟨by rw [hk0.out];rfl,hb'⟩
 | true =>
   have hx:∃ x,L[pl]?=some x∧x.kind=k:=by
    have h1:=HIS.out
    have h2:=HK.out
    unfold kindL at h2
    rw [h1,HPL.out] at h2
    unfold isK at h1
    rw [HPL.out] at h1
    cases hx:L[pl]? with
    | none=>rw [hx] at h1;cases h1
    | some x=>rw [hx] at h2;exact ⟨x,rfl,h2⟩
   obtain ⟨x,hx,hxk⟩:=hx
   have hpn:pl < L.length:=(List.getElem?_eq_some_iff.1 hx).1
   obtain ⟨b,o,rfl,hat⟩:=HC.out _ x hx
   have HAT:=Lib.hid hat
   have HXK:=Lib.hid hxk
   obtain ⟨n,hn⟩:∃ n,L.length=n:=⟨_,rfl⟩
   rw [hn] at hpn hcap hL HP ⊢
   clear hx hat hxk hn
   go_enter Tryz.func59,Tryz.ntmps59
   go_wp2_with (go_at_call 97;refine HP.out.mono ?_;rintro e w' ⟨rfl,hb'⟩;obtain ⟨c0,c1⟩:=two (HAT.out.keep hb' HAT.out.lt))
   go_ret2
   exact ⟨by rw [←HXK.out];rfl,hb'⟩
end Go.Proofs.YthcpglnmhimepaaGreatDoor.Fl
