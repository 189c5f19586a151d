/- CentRef -/
import Derived.Test.YtdegffffcbhjbaaGreatDoorQ04
namespace Go.Proofs.YtdegffffcbhjbaaGreatDoor
open Go.RowKit
theorem digs_bad (s:ByteArray) (k:Nat) (hlt:k < s.size) (hc:dig s[k]=false):digs s.data.toList=false:=by
 cases h:digs s.data.toList with
 | false=>rfl
 | true =>
   have:=digs_at _ k (by simpa using hlt) h
   rw [←hc];exact this.symm
set_option maxHeartbeats 400000 in
theorem form_nil (w:World):Calls Tryz.prog 93 #[.string ⟨#[]⟩] w fun e w'=>e=.returned (.bool (whole []))∧w=w':=by
 go_enter Tryz.func93,Tryz.ntmps93
 go_wp2
 go_ret
 exact ⟨rfl,rfl⟩
set_option maxHeartbeats 400000 in
theorem form_minus (w:World):Calls Tryz.prog 93 #[.string ⟨#[45]⟩] w fun e w'=>e=.returned (.bool (whole [45]))∧w=w':=by
 go_enter Tryz.func93,Tryz.ntmps93
 go_wp2
 go_ret
 exact ⟨rfl,rfl⟩
set_option maxHeartbeats 400000 in
theorem form_minus0 (s t:ByteArray) (w:World) (hs:s.size≤maxLen) (hp:0 < s.size) (h45:((s[0].toNat:Int)==45)=true) (hx:s.extract 1 s.size=t) (ht:0 < t.size) (h48:((t[0].toNat:Int)==48)=true) :
 Calls Tryz.prog 93 #[.string s] w fun e w'=>e=.returned (.bool false)∧w=w':=by
 unfold maxLen at hs
 have hp':(0:Int) < (s.size:Int):=by omega
 have ht':(0:Int) < (t.size:Int):=by omega
 go_enter Tryz.func93,Tryz.ntmps93
 go_wp2
 go_ret
 exact ⟨rfl,rfl⟩
set_option maxHeartbeats 400000 in
theorem form_0 (s:ByteArray) (w:World) (hs:s.size≤maxLen) (hp:1 < s.size) (h48:((s[0].toNat:Int)==48)=true) (h45:((s[0].toNat:Int)==45)=false) :
 Calls Tryz.prog 93 #[.string s] w fun e w'=>e=.returned (.bool false)∧w=w':=by
 unfold maxLen at hs
 have hp0:0 < s.size:=by omega
 have hp':(1:Int) < (s.size:Int):=by omega
 have hp1:((s.size:Int)==0)=false:=by rw [beq_eq_false_iff_ne];omega
 go_enter Tryz.func93,Tryz.ntmps93
 go_wp2
 go_ret
 exact ⟨rfl,rfl⟩
set_option maxHeartbeats 400000 in
theorem form_one (s:ByteArray) (w:World) (hp0:0 < s.size) (hp1:s.size≤1) (h45:((s[0].toNat:Int)==45)=false) :
 Calls Tryz.prog 93 #[.string s] w fun e w'=>e=.returned (.bool (digs s.data.toList))∧w=w':=by
 have hp2:((s.size:Int)==0)=false:=by rw [beq_eq_false_iff_ne];omega
 go_enter Tryz.func93,Tryz.ntmps93
 go_wp2
 go_loop [3] (fun i=>∃ k:Nat,k≤s.size∧i=.int .i64 k∧digs (s.data.toList.take k)=true) (fun i=>s.size - (intOf i).toNat)
 case atStart=>exact ⟨0,Nat.zero_le _,rfl,rfl⟩
 case round =>
  obtain ⟨k,hk,rfl,hd⟩:=hrel
  have HD:=Lib.hid hd
  clear hd
  by_cases hlt:k < s.size
  ·cases hc:dig s[k] with
   | true =>
     have HC:=Lib.hid hc
     obtain ⟨c1,c2⟩:=(dig_iff _).1 hc
     have c3:(48:Int)≤(s[k].toNat:Int):=by omega
     have c4:(s[k].toNat:Int)≤57:=by omega
     clear hc c1 c2
     go_wp2
     go_round
     case rel=>exact ⟨k+1,by omega,by go_num,by rw [digs_take s k hlt,HD.out,HC.out];rfl⟩
     case measure=>simp [intOf];omega
   | false =>
     have hfin:digs s.data.toList=false:=digs_bad s k hlt hc
     have HFIN:=Lib.hid hfin
     clear hfin
     have hc':¬ (48≤s[k].toNat∧s[k].toNat≤57):=by rw [←dig_iff,hc];simp
     clear hc
     by_cases c1:48≤s[k].toNat
     ·have c3:(48:Int)≤(s[k].toNat:Int):=by omega
      have c4:(57:Int) < (s[k].toNat:Int):=by omega
      clear hc' c1
      go_wp2
      go_ret
      exact ⟨ret_bool HFIN.out.symm,rfl⟩
     ·have c3:(s[k].toNat:Int) < 48:=by omega
      clear hc' c1
      go_wp2
      go_ret
      exact ⟨ret_bool HFIN.out.symm,rfl⟩
  ·have hfin:digs s.data.toList=true:=by
    have:=HD.out
    rwa [List.take_of_length_le (by simp;omega)] at this
   have HFIN:=Lib.hid hfin
   clear hfin
   go_wp2
   go_ret
   exact ⟨ret_bool HFIN.out.symm,rfl⟩
set_option maxHeartbeats 400000 in
theorem form_d (s:ByteArray) (w:World) (hs:s.size≤maxLen) (hp:1 < s.size) (h48:((s[0].toNat:Int)==48)=false) (h45:((s[0].toNat:Int)==45)=false) :
 Calls Tryz.prog 93 #[.string s] w fun e w'=>e=.returned (.bool (digs s.data.toList))∧w=w':=by
 unfold maxLen at hs
 have hp0:0 < s.size:=by omega
 have hp2:((s.size:Int)==0)=false:=by rw [beq_eq_false_iff_ne];omega
 go_enter Tryz.func93,Tryz.ntmps93
 go_wp2
 go_loop [3] (fun i=>∃ k:Nat,k≤s.size∧i=.int .i64 k∧digs (s.data.toList.take k)=true) (fun i=>s.size - (intOf i).toNat)
 case atStart=>exact ⟨0,Nat.zero_le _,rfl,rfl⟩
 case round =>
  obtain ⟨k,hk,rfl,hd⟩:=hrel
  have HD:=Lib.hid hd
  clear hd
  by_cases hlt:k < s.size
  ·cases hc:dig s[k] with
   | true =>
     have HC:=Lib.hid hc
     obtain ⟨c1,c2⟩:=(dig_iff _).1 hc
     have c3:(48:Int)≤(s[k].toNat:Int):=by omega
     have c4:(s[k].toNat:Int)≤57:=by omega
     clear hc c1 c2
     go_wp2
     go_round
     case rel=>exact ⟨k+1,by omega,by go_num,by rw [digs_take s k hlt,HD.out,HC.out];rfl⟩
     case measure=>simp [intOf];omega
   | false =>
     have hfin:digs s.data.toList=false:=digs_bad s k hlt hc
     have HFIN:=Lib.hid hfin
     clear hfin
     have hc':¬ (48≤s[k].toNat∧s[k].toNat≤57):=by rw [←dig_iff,hc];simp
     clear hc
     by_cases c1:48≤s[k].toNat
     ·have c3:(48:Int)≤(s[k].toNat:Int):=by omega
      have c4:(57:Int) < (s[k].toNat:Int):=by omega
      clear hc' c1
      go_wp2
      go_ret
      exact ⟨ret_bool HFIN.out.symm,rfl⟩
     ·have c3:(s[k].toNat:Int) < 48:=by omega
      clear hc' c1
      go_wp2
      go_ret
      exact ⟨ret_bool HFIN.out.symm,rfl⟩
  ·have hfin:digs s.data.toList=true:=by
    have:=HD.out
    rwa [List.take_of_length_le (by simp;omega)] at this
   have HFIN:=Lib.hid hfin
   clear hfin
   go_wp2
   go_ret
   exact ⟨ret_bool HFIN.out.symm,rfl⟩
set_option maxHeartbeats 400000 in
theorem form_minus1 (s t:ByteArray) (w:World) (hs:s.size≤maxLen) (hp:0 < s.size) (h45:((s[0].toNat:Int)==45)=true) (hx:s.extract 1 s.size=t) (ht:0 < t.size) (ht1:t.size≤1) (h48:((t[0].toNat:Int)==48)=false) :
 Calls Tryz.prog 93 #[.string s] w fun e w'=>e=.returned (.bool (digs t.data.toList))∧w=w':=by
 unfold maxLen at hs
 have hp2:((t.size:Int)==0)=false:=by rw [beq_eq_false_iff_ne];omega
 go_enter Tryz.func93,Tryz.ntmps93
 go_wp2
 go_loop [3] (fun i=>∃ k:Nat,k≤t.size∧i=.int .i64 k∧digs (t.data.toList.take k)=true) (fun i=>t.size - (intOf i).toNat)
 case atStart=>exact ⟨0,Nat.zero_le _,rfl,rfl⟩
 case round =>
  obtain ⟨k,hk,rfl,hd⟩:=hrel
  have HD:=Lib.hid hd
  clear hd
  by_cases hlt:k < t.size
  ·cases hc:dig t[k] with
   | true =>
     have HC:=Lib.hid hc
     obtain ⟨c1,c2⟩:=(dig_iff _).1 hc
     have c3:(48:Int)≤(t[k].toNat:Int):=by omega
     have c4:(t[k].toNat:Int)≤57:=by omega
     clear hc c1 c2
     go_wp2
     go_round
     case rel=>exact ⟨k+1,by omega,by go_num,by rw [digs_take t k hlt,HD.out,HC.out];rfl⟩
     case measure=>simp [intOf];omega
   | false =>
     have hfin:digs t.data.toList=false:=digs_bad t k hlt hc
     have HFIN:=Lib.hid hfin
     clear hfin
     have hc':¬ (48≤t[k].toNat∧t[k].toNat≤57):=by rw [←dig_iff,hc];simp
     clear hc
     by_cases c1:48≤t[k].toNat
     ·have c3:(48:Int)≤(t[k].toNat:Int):=by omega
      have c4:(57:Int) < (t[k].toNat:Int):=by omega
      clear hc' c1
      go_wp2
      go_ret
      exact ⟨ret_bool HFIN.out.symm,rfl⟩
     ·have c3:(t[k].toNat:Int) < 48:=by omega
      clear hc' c1
      go_wp2
      go_ret
      exact ⟨ret_bool HFIN.out.symm,rfl⟩
  ·have hfin:digs t.data.toList=true:=by
    have:=HD.out
    rwa [List.take_of_length_le (by simp;omega)] at this
   have HFIN:=Lib.hid hfin
   clear hfin
   go_wp2
   go_ret
   exact ⟨ret_bool HFIN.out.symm,rfl⟩
set_option maxHeartbeats 400000 in
theorem form_minusd (s t:ByteArray) (w:World) (hs:s.size≤maxLen) (hp:0 < s.size) (h45:((s[0].toNat:Int)==45)=true) (hx:s.extract 1 s.size=t) (hts:t.size≤maxLen) (ht1:1 < t.size) (h48:((t[0].toNat:Int)==48)=false) :
 Calls Tryz.prog 93 #[.string s] w fun e w'=>e=.returned (.bool (digs t.data.toList))∧w=w':=by
 unfold maxLen at hs hts
 have hp0:0 < t.size:=by omega
 have hp2:((t.size:Int)==0)=false:=by rw [beq_eq_false_iff_ne];omega
 go_enter Tryz.func93,Tryz.ntmps93
 go_wp2
 go_loop [3] (fun i=>∃ k:Nat,k≤t.size∧i=.int .i64 k∧digs (t.data.toList.take k)=true) (fun i=>t.size - (intOf i).toNat)
 case atStart=>exact ⟨0,Nat.zero_le _,rfl,rfl⟩
 case round =>
  obtain ⟨k,hk,rfl,hd⟩:=hrel
  have HD:=Lib.hid hd
  clear hd
  by_cases hlt:k < t.size
  ·cases hc:dig t[k] with
   | true =>
     have HC:=Lib.hid hc
     obtain ⟨c1,c2⟩:=(dig_iff _).1 hc
     have c3:(48:Int)≤(t[k].toNat:Int):=by omega
     have c4:(t[k].toNat:Int)≤57:=by omega
     clear hc c1 c2
     go_wp2
     go_round
     case rel=>exact ⟨k+1,by omega,by go_num,by rw [digs_take t k hlt,HD.out,HC.out];rfl⟩
     case measure=>simp [intOf];omega
   | false =>
     have hfin:digs t.data.toList=false:=digs_bad t k hlt hc
     have HFIN:=Lib.hid hfin
     clear hfin
     have hc':¬ (48≤t[k].toNat∧t[k].toNat≤57):=by rw [←dig_iff,hc];simp
     clear hc
     by_cases c1:48≤t[k].toNat
     ·have c3:(48:Int)≤(t[k].toNat:Int):=by omega
      have c4:(57:Int) < (t[k].toNat:Int):=by omega
      clear hc' c1
      go_wp2
      go_ret
      exact ⟨ret_bool HFIN.out.symm,rfl⟩
     ·have c3:(t[k].toNat:Int) < 48:=by omega
      clear hc' c1
      go_wp2
      go_ret
      exact ⟨ret_bool HFIN.out.symm,rfl⟩
  ·have hfin:digs t.data.toList=true:=by
    have:=HD.out
    rwa [List.take_of_length_le (by simp;omega)] at this
   have HFIN:=Lib.hid hfin
   clear hfin
   go_wp2
   go_ret
   exact ⟨ret_bool HFIN.out.symm,rfl⟩
theorem size_of (l:List UInt8):(⟨l.toArray⟩:ByteArray).size=l.length:=by show l.toArray.size=l.length;simp
theorem form_any (s:ByteArray) (w:World) (hs:s.size≤maxLen) :
 Calls Tryz.prog 93 #[.string s] w fun e w'=>e=.returned (.bool (whole s.data.toList))∧w=w':=by
 obtain ⟨⟨l⟩⟩:=s
 have hl:l.length≤maxLen:=hs
 clear hs
 show Calls Tryz.prog 93 #[.string ⟨l.toArray⟩] w fun e w'=>e=.returned (.bool (whole l))∧w=w'
 match l,hl with
 | [],_=>exact form_nil w
 | c::r,hl =>
   simp only [List.length_cons] at hl
   by_cases h45:c=45
   ·subst h45
    match r,hl with
    | [],_=>exact form_minus w
    | d::r,hl =>
      simp only [List.length_cons] at hl
      have hx:(⟨(45::d::r).toArray⟩:ByteArray).extract 1 (⟨(45::d::r).toArray⟩:ByteArray).size=⟨(d::r).toArray⟩:=by
       rw [size_of];exact extract_tail 45 (d::r)
      have h1:(⟨(45::d::r).toArray⟩:ByteArray).size≤maxLen:=by rw [size_of];simp only [List.length_cons];omega
      have h2:0 < (⟨(45::d::r).toArray⟩:ByteArray).size:=by rw [size_of];simp
      have h3:0 < (⟨(d::r).toArray⟩:ByteArray).size:=by rw [size_of];simp
      by_cases h48:d=48
      ·subst h48
       exact form_minus0 ⟨(45::48::r).toArray⟩ ⟨(48::r).toArray⟩ w h1 h2 rfl hx h3 rfl
      ·have hf:whole (45::d::r)=digs (d::r):=by rw [whole_minus];simp [plainNum,h48]
       have h4:(((⟨(d::r).toArray⟩:ByteArray)[0].toNat:Int)==48)=false:=beq_lit (n:=48) (toNat_ne h48)
       rw [hf]
       by_cases h5:(⟨(d::r).toArray⟩:ByteArray).size≤1
       ·exact form_minus1 ⟨(45::d::r).toArray⟩ ⟨(d::r).toArray⟩ w h1 h2 rfl hx h3 h5 h4
       ·exact form_minusd ⟨(45::d::r).toArray⟩ ⟨(d::r).toArray⟩ w h1 h2 rfl hx (by rw [size_of];simp only [List.length_cons];omega) (by omega) h4
   ·have h2:0 < (⟨(c::r).toArray⟩:ByteArray).size:=by rw [size_of];simp
    have h1:(⟨(c::r).toArray⟩:ByteArray).size≤maxLen:=by rw [size_of];simp only [List.length_cons];omega
    have h4:(((⟨(c::r).toArray⟩:ByteArray)[0].toNat:Int)==45)=false:=beq_lit (n:=45) (toNat_ne h45)
    by_cases h5:(⟨(c::r).toArray⟩:ByteArray).size≤1
    ·have hr:r=[]:=by rw [size_of] at h5;simp only [List.length_cons] at h5;exact List.eq_nil_of_length_eq_zero (by omega)
     subst hr
     have hf:whole [c]=digs [c]:=by
      rw [whole_other [] h45]
      by_cases h48:c=48
      ·subst h48;rfl
      ·rw [list_ne h48];simp [plainNum,h48]
     rw [hf]
     exact form_one ⟨[c].toArray⟩ w h2 h5 h4
    ·by_cases h48:c=48
     ·subst h48
      have hf:whole (48::r)=false:=by
       match r,h5 with
       | [],h5=>exact absurd (show (⟨[48].toArray⟩:ByteArray).size≤1 from Nat.le_refl _) h5
       | d::r,_=>rw [whole_other (d::r) h45,list_ne2];rfl
      rw [hf]
      exact form_0 ⟨(48::r).toArray⟩ w h1 (by omega) rfl h4
     ·have hf:whole (c::r)=digs (c::r):=by rw [whole_other r h45,list_ne h48];simp [plainNum,h48]
      rw [hf]
      exact form_d ⟨(c::r).toArray⟩ w h1 (by omega) (beq_lit (n:=48) (toNat_ne h48)) h4
end Go.Proofs.YtdegffffcbhjbaaGreatDoor
