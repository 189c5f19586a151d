/- PkRead1 CentText Segs StoreEl PkRead2 UnitReadA -/
import Derived.Deep.OwnRows
import Derived.Deep.RegionWith
import Derived.Lib.LaidTab
import Derived.OrdersHeld
import Derived.Test.YtdhfpgjnjlcciaaGreatDoorQ07
section
namespace Go.Proofs.YtdhfpgjnjlcciaaGreatDoor.Pk
open Go.RowKit Go.Maps Go.Proofs.YtdhfpgjnjlcciaaGreatDoor.Un
set_option maxRecDepth 100000 in
theorem zeO {W:World} {m n:Nat} {D:DataW Unit} {had:List ByteArray} {x:ByteArray} (hm:MapPk W m n D) (hd:HadD D had) (hx:x.size≤maxLen) (hn:n < maxLen) :
 ∃ (W4:World) (D':DataW Unit),(Instr.lookup 120 (.map (some m)) (.string x) false).run Tryz.prog W=.ok (.int .i64 (if hadB had x=true then 1 else 0)) W ∧
   (Instr.mapUpdate 120 (.map (some m)) (.string x) (.int .i64 (if hadB had x=true then 2 else 1))).run Tryz.prog W=.ok () W4 ∧
   (Instr.lookup 120 (.map (some m)) (.string x) false).run Tryz.prog W4=.ok (.int .i64 (if hadB had x=true then 2 else 1)) W4 ∧
   MapPk W4 m (n+1) D'∧W.grownBy W4 (some m)∧(hadB had x=false→HadD D' (had++[x])):=by
 have hT:=Tryz.underlying120
 have hI:=Tryz.underlying3
 have hkey:keyOf Tryz.prog 9 (.string x)=some (kS x):=WideMaps.keyOf_string_mk Tryz.underlying9 hx
 obtain ⟨c,hrun,hat,_⟩:=hm.lookup_int law9 hT hI (vM _) hkey
 have hc:c=if hadB had x=true then 1 else 0:=by
  rw [hd x] at hat
  injection hat with hat
  injection hat with _ hat
  exact hat.symm
 subst hc
 have hv:plainElem (H:=Unit) Tryz.prog 3 (.int .i64 (if hadB had x=true then 2 else 1))=some (.lit (.int .i64 (if hadB had x=true then 2 else 1)),[]):=plainElem_int hI (by split <;> decide)
 obtain ⟨W4,hu,hm4,hg4⟩:=hm.update law9 hT hn hkey hv
 obtain ⟨c4,hrun4,hat4,_⟩:=hm4.lookup_int law9 hT hI (vM _) hkey
 have hc4:c4=if hadB had x=true then 2 else 1:=by
  rw [atKey_put_same (hm.tidy law9).isMap (VC _)] at hat4
  injection hat4 with hat4
  injection hat4 with _ hat4
  exact hat4.symm
 subst hc4
 refine ⟨W4,_,hrun,hu,hrun4,hm4,hg4,fun hno=>?_⟩
 rw [if_neg (by rw [hno];simp)]
 exact hd.put (hm.tidy law9) x
def LineP (W:World) (B R m n:Nat) (c f e l:Value) (M:Mast) (S':St) (E:Int) (en:Ending) (W':World):Prop :=
 en=.returned (.int .i64 E)∧Below B W W'∧(E=0→∃ D' v',PkAt W' B R m c f e l M (n+1) D' S' v')
set_option maxRecDepth 100000 in
set_option maxHeartbeats 4000000 in
theorem zif (u:Value) (x:ByteArray) (W:World) (B R m:Nat) (c f e l:Value) (M:Mast) (n:Nat) (D:DataW Unit) (S:St) (v:Value) (hu:StrsV W u [x]) (hB:B≤W.heap.size) (hn:n < maxLen) (hm:MastIn W c f e l M) (h:PkAt W B R m c f e l M n D S v) :
 Calls Tryz.prog 113 #[.pointer (some ⟨R,0,none⟩),u] W (LineP W B R m n c f e l M ⟨x,0,S.had++[x],S.facts⟩ (if begE M x=0 then (if hadB S.had x=true then 7 else 0) else begE M x)):=by
 obtain ⟨p,cp,rfl,_,_,hc⟩:=hu
 obtain ⟨g,o,rfl,k0⟩:=hc 0 x rfl
 rw [Nat.add_zero] at k0
 have HBG:=Lib.hid (Ka x 0 W B R m c f e l M n D S v hB hm h)
 have HB0:=Lib.hid hB
 have HSZ:Hid (begE M x=0→x.size≤maxLen):=Lib.hid (fun h0=>by have:=(Z8 (Xj.1 h0).1).2;unfold maxLen;omega)
 have HNN:=Lib.hid hn
 unfold Z2 at HBG
 obtain ⟨N,hN⟩:∃ N,begE M x=N:=⟨_,rfl⟩
 rw [hN] at HBG HSZ ⊢
 obtain ⟨E,hE⟩:∃ E,(if N=0 then (if hadB S.had x=true then 7 else 0) else N)=E:=⟨_,rfl⟩
 rw [hE]
 have HE:=Lib.hid hE
 clear hc hm h hB hN hn hE
 go_enter Tryz.func113,Tryz.ntmps113
 go_wp2_with fail
 clear k0
 refine HBG.out.mono ?_
 rintro en w1 ⟨rfl,hb1,hp1⟩
 have HB1:=Lib.hid hb1
 have HP1:=Lib.hid hp1
 clear hb1 hp1
 by_cases h0:N=0
 ·subst h0
  have HP:=Lib.hid (HP1.out rfl)
  obtain ⟨W4,D',hl1,hu1,hl2,hm4,hg4,hd4⟩:=zeO HP.out.map HP.out.had (HSZ.out rfl) HNN.out
  obtain ⟨d9,_,_,_⟩:=HP.out.four
  have HB4:Hid (Below B W W4):=Lib.hid (HB1.out.grown hg4 (by have:=HB1.out.size;have:=HB0.out;omega) (fun j hj=>by cases hj;exact HP.out.geM))
  have HM4:=Lib.hid hm4
  have HG4:=Lib.hid hg4
  have HD4:=Lib.hid hd4
  have hR:R < w1.heap.size:=HP.out.lt
  have d9':W4.cell? ⟨R,9,none⟩=some (.map (some m)):=by
   have:=(HP.out.mapTurned (had':=S.had++[x]) (D':=D') (k:=n+1) hg4 hm4)
   exact (hg4.cell d9 (fun e=>HP.out.apart (Option.some.inj e)))
  clear hm4 hg4 hd4 hR
  cases hh:hadB S.had x with
  | true =>
    rw [hh] at hl1 hu1 hl2
    simp only [if_true] at hl1 hu1 hl2
    have HEE:Hid (E=7):=Lib.hid (by rw [←HE.out,if_pos rfl,if_pos hh])
    go_wp2
    go_ret
    exact ⟨by rw [HEE.out];rfl,HB4.out,fun h=>by rw [HEE.out] at h;cases h⟩
  | false =>
    have HD5:=Lib.hid (HD4.out hh)
    rw [hh] at hl1 hu1 hl2
    simp only [Bool.false_eq_true,if_false] at hl1 hu1 hl2
    have HEE:Hid (E=0):=Lib.hid (by rw [←HE.out,if_pos rfl,if_neg (by rw [hh];simp)])
    go_wp2
    go_ret
    exact ⟨by rw [HEE.out];rfl,HB4.out,fun _=>⟨D',v,HP.out.mapTurned HG4.out HM4.out HD5.out⟩⟩
 ·have hnz:(N != 0)=true:=by simp [h0]
  have HH0:=Lib.hid h0
  have HEE:Hid (E=N):=Lib.hid (by rw [←HE.out,if_neg h0])
  clear h0
  go_wp2
  go_ret
  exact ⟨by rw [HEE.out];rfl,HB1.out,fun h=>absurd (HEE.out.symm.trans h) HH0.out⟩
set_option maxRecDepth 100000 in
set_option maxHeartbeats 4000000 in
theorem zgt (u:Value) (x:ByteArray) (W:World) (B R m:Nat) (c f e l:Value) (M:Mast) (n:Nat) (D:DataW Unit) (S:St) (v:Value) (hu:StrsV W u [x]) (hB:B≤W.heap.size) (hm:MastIn W c f e l M) (h:PkAt W B R m c f e l M n D S v) :
 Calls Tryz.prog 114 #[.pointer (some ⟨R,0,none⟩),u] W (LineP W B R m n c f e l M ⟨x,1,S.had,S.facts⟩ (begE M x)):=by
 obtain ⟨p,cp,rfl,_,_,hc⟩:=hu
 obtain ⟨g,o,rfl,k0⟩:=hc 0 x rfl
 rw [Nat.add_zero] at k0
 have HBG:=Lib.hid (Ka x 1 W B R m c f e l M n D S v hB hm h)
 unfold Z2 at HBG
 obtain ⟨N,hN⟩:∃ N,begE M x=N:=⟨_,rfl⟩
 rw [hN] at HBG ⊢
 clear hc hm h hB hN
 go_enter Tryz.func114,Tryz.ntmps114
 go_wp2_with fail
 clear k0
 refine HBG.out.mono ?_
 rintro en w1 ⟨rfl,hb1,hp1⟩
 have HB1:=Lib.hid hb1
 have HP1:=Lib.hid hp1
 clear hb1 hp1
 go_wp2
 go_ret
 exact ⟨rfl,HB1.out,fun h=>⟨D,v,(HP1.out h).mono (Nat.le_succ _)⟩⟩
theorem qDash (s:ByteArray):(s.toList==[45])=decide (s=tDash):=qL s tDash _ rfl
set_option maxHeartbeats 1000000 in
theorem zij (x:ByteArray) (w:World):Calls Tryz.prog 157 #[.string x] w fun en w'=>en=.returned (.string (parB x))∧w=w':=by
 have q:=qDash x
 obtain ⟨P,hP⟩:∃ P,parB x=P:=⟨_,rfl⟩
 rw [hP]
 by_cases h:x=tDash
 ·have HP:Hid (P=emp):=Lib.hid (by rw [←hP];unfold parB;rw [if_pos h])
  rw [decide_eq_true h] at q
  clear hP h
  go_enter Tryz.func157,Tryz.ntmps157
  go_wp2
  go_ret
  exact ⟨by rw [HP.out];rfl,rfl⟩
 ·have HP:Hid (P=x):=Lib.hid (by rw [←hP];unfold parB;rw [if_neg h])
  rw [decide_eq_false h] at q
  clear hP h
  go_enter Tryz.func157,Tryz.ntmps157
  go_wp2
  go_ret
  exact ⟨by rw [HP.out];rfl,rfl⟩
set_option maxRecDepth 100000 in
set_option maxHeartbeats 4000000 in
theorem zeo (k:Fa.Key) (w:World):Calls Tryz.prog 158 #[Fa.aggK k] w fun en w'=>en=.returned (.bool (namedK k))∧Below w.heap.size w w':=by
 have hb1:=(Below.refl w.heap.size w).alloc (Nat.le_refl _) (.cells (kCells k) 74)
 have hk1:=Fa.key5 (zf Fa.encK w k 74)
 obtain ⟨W1,hW1⟩:∃ W1,w.alloc (.cells (kCells k) 74)=W1:=⟨_,rfl⟩
 rw [show (Fa.encK.cs k).toArray=kCells k from rfl,hW1] at hk1
 rw [hW1] at hb1
 have HB1:=Lib.hid hb1
 have HA:=Lib.hid (fun W=>jS k.a W)
 have HF:=Lib.hid (fun W=>jS k.f W)
 have HP:=Lib.hid (fun W=>jS k.p W)
 obtain ⟨A,hA⟩:∃ I,nameL k.a.data.toList=I:=⟨_,rfl⟩
 obtain ⟨F,hF⟩:∃ I,nameL k.f.data.toList=I:=⟨_,rfl⟩
 obtain ⟨P,hP⟩:∃ I,nameL k.p.data.toList=I:=⟨_,rfl⟩
 obtain ⟨I,hI⟩:∃ I,isP k=I:=⟨_,rfl⟩
 have hq0:=Vf k
 rw [hI] at hq0
 have HN:Hid (namedK k=(A && F && (!I || P))):=Lib.hid (by unfold namedK nmB;rw [hA,hF,hP,hI])
 simp only [hA] at HA
 simp only [hF] at HF
 simp only [hP] at HP
 obtain ⟨N,hN⟩:∃ N,namedK k=N:=⟨_,rfl⟩
 rw [hN] at HN ⊢
 clear hA hF hP hI hN hb1
 obtain ⟨y0,y1,y2,y3,y4⟩:=hk1
 simp only [Nat.zero_add] at y0 y1 y2 y3 y4
 go_enter Tryz.func158,Tryz.ntmps158
 go_wp2_with fail
 clear hW1
 refine (HA.out _).mono ?_
 rintro en w1 ⟨rfl,rfl⟩
 cases A with
 | false =>
   have HNN:Hid (N=false):=Lib.hid (by rw [HN.out];rfl)
   go_wp2
   go_ret
   exact ⟨by rw [HNN.out];rfl,HB1.out⟩
 | true =>
 go_wp2_with fail
 refine (HF.out _).mono ?_
 rintro en w1 ⟨rfl,rfl⟩
 cases F with
 | false =>
   have HNN:Hid (N=false):=Lib.hid (by rw [HN.out];rfl)
   go_wp2
   go_ret
   exact ⟨by rw [HNN.out];rfl,HB1.out⟩
 | true =>
 cases I with
 | false =>
   have hq:k.p.toList.isEmpty=true:=by simpa using hq0.symm
   have HNN:Hid (N=true):=Lib.hid (by rw [HN.out];rfl)
   clear hq0
   go_wp2
   go_ret
   exact ⟨by rw [HNN.out];rfl,HB1.out⟩
 | true =>
   have hq:k.p.toList.isEmpty=false:=by simpa using hq0.symm
   have HNN:Hid (N=P):=Lib.hid (by rw [HN.out];cases P <;> rfl)
   clear hq0
   go_wp2_with fail
   refine (HP.out _).mono ?_
   rintro en w1 ⟨rfl,rfl⟩
   go_wp2
   go_ret
   exact ⟨by rw [HNN.out];rfl,HB1.out⟩
end Go.Proofs.YtdhfpgjnjlcciaaGreatDoor.Pk
end
section
namespace Go.Proofs.YtdhfpgjnjlcciaaGreatDoor
open Go.RowKit
theorem zhL (s:ByteArray) (k:Nat) (h:k < s.size):digs (s.data.toList.take (k+1))=(digs (s.data.toList.take k) && dig s[k]):=by
 rw [List.take_succ_eq_append_getElem (by simpa using h),zdz];rfl
theorem zgQ (l:List UInt8) (k:Nat) (h:k < l.length) (hd:digs l=true):dig l[k]=true:=by
 unfold digs at hd
 exact List.all_eq_true.1 hd _ (List.getElem_mem h)
set_option maxHeartbeats 400000 in
theorem XU (s:ByteArray) (w:World) (hs:s.size≤maxLen) :
 Calls Tryz.prog 210 #[.string s] w fun e w'=>e=.returned (.bool (digs s.data.toList))∧w=w':=by
 unfold maxLen at hs
 go_enter Tryz.func210,Tryz.ntmps210
 go_wp2
 go_loop [6] (fun i=>∃ k:Nat,k≤s.size∧i=.int .i64 k∧digs (s.data.toList.take k)=true) (fun i=>s.size - (intOf i).toNat)
 case atStart=>exact ⟨0,Nat.zero_le _,rfl,rfl⟩
 case round =>
  obtain ⟨k,hk,rfl,hd⟩:=hrel
  have HD:=Lib.hid hd
  clear hd
  by_cases hlt:k < s.size
  ·cases hc:dig s[k] with
   | true =>
     have HC:=Lib.hid hc
     obtain ⟨c1,c2⟩:=(ZF _).1 hc
     have c3:(48:Int)≤(s[k].toNat:Int):=by omega
     have c4:(s[k].toNat:Int)≤57:=by omega
     clear hc c1 c2
     go_wp2
     go_round
     case rel=>exact ⟨k+1,by omega,by go_num,by rw [zhL s k hlt,HD.out,HC.out];rfl⟩
     case measure=>simp [intOf];omega
   | false =>
     have hfin:digs s.data.toList=false:=by
      cases h:digs s.data.toList with
      | false=>rfl
      | true =>
        have:=zgQ _ k (by simpa using hlt) h
        rw [←hc];exact this.symm
     have HFIN:=Lib.hid hfin
     clear hfin
     have hc':¬ (48≤s[k].toNat∧s[k].toNat≤57):=by rw [←ZF,hc];simp
     clear hc
     by_cases c1:48≤s[k].toNat
     ·have c3:(48:Int)≤(s[k].toNat:Int):=by omega
      have c4:(57:Int) < (s[k].toNat:Int):=by omega
      clear hc' c1
      go_wp2
      go_ret
      exact ⟨zk HFIN.out.symm,rfl⟩
     ·have c3:(s[k].toNat:Int) < 48:=by omega
      clear hc' c1
      go_wp2
      go_ret
      exact ⟨zk HFIN.out.symm,rfl⟩
  ·have hfin:digs s.data.toList=true:=by
    have:=HD.out
    rwa [List.take_of_length_le (by simp;omega)] at this
   have HFIN:=Lib.hid hfin
   clear hfin
   go_wp2
   go_ret
   exact ⟨zk HFIN.out.symm,rfl⟩
theorem zi1 {c:UInt8} {n:Nat} (h:c.toNat≠n):((c.toNat:Int)==(n:Int))=false:=by
 rw [beq_eq_false_iff_ne];omega
theorem Kc {c:UInt8} {n:Nat} (h:c.toNat≠n):((c.toNat:Int) != (n:Int))=true:=by
 rw [bne_iff_ne];omega
theorem ziN {c d:UInt8} {r:List UInt8} (h:c≠d):((c::r)==[d])=false:=by
 rw [beq_eq_false_iff_ne];intro e;injection e with e _;exact h e
theorem KG {c d e:UInt8} {r:List UInt8}:((c::d::r)==[e])=false:=by
 rw [beq_eq_false_iff_ne];intro h;injection h with _ h;cases h
theorem KV (c:UInt8) (l:List UInt8):(⟨(c::l).toArray⟩:ByteArray).extract 1 (l.length+1)=⟨l.toArray⟩:=by
 apply ByteArray.ext
 rw [ByteArray.data_extract]
 apply Array.ext'
 simp
theorem YL (c:UInt8) (l:List UInt8) (h:0 < (⟨(c::l).toArray⟩:ByteArray).size):(⟨(c::l).toArray⟩:ByteArray)[0]=c:=rfl
theorem size_pos (c:UInt8) (l:List UInt8):0 < (⟨(c::l).toArray⟩:ByteArray).size:=by show 0 < (c::l).toArray.size;simp
set_option maxHeartbeats 400000 in
theorem zhU (w:World) :
 Calls Tryz.prog 190 #[.string ⟨#[]⟩] w fun e w'=>e=.returned (.bool (whole []))∧w=w':=by
 go_enter Tryz.func190,Tryz.ntmps190
 go_wp2
 go_ret
 exact ⟨rfl,rfl⟩
set_option maxHeartbeats 400000 in
theorem zeD (w:World) :
 Calls Tryz.prog 190 #[.string ⟨#[48]⟩] w fun e w'=>e=.returned (.bool (whole [48]))∧w=w':=by
 go_enter Tryz.func190,Tryz.ntmps190
 go_wp2
 go_ret
 exact ⟨rfl,rfl⟩
set_option maxHeartbeats 400000 in
theorem zgE (w:World) :
 Calls Tryz.prog 190 #[.string ⟨#[45]⟩] w fun e w'=>e=.returned (.bool (whole [45]))∧w=w':=by
 go_enter Tryz.func190,Tryz.ntmps190
 go_wp2
 go_ret
 exact ⟨rfl,rfl⟩
set_option maxHeartbeats 400000 in
theorem zhg (r:List UInt8) (w:World) (hs:r.length+2≤maxLen) :
 Calls Tryz.prog 190 #[.string ⟨(45::48::r).toArray⟩] w fun e w'=>e=.returned (.bool (whole (45::48::r)))∧w=w':=by
 unfold maxLen at hs
 have hx:=KV 45 (48::r)
 rw [show (48::r).length+1=r.length+1+1 from rfl] at hx
 go_enter Tryz.func190,Tryz.ntmps190
 go_wp2
 go_ret
 exact ⟨rfl,rfl⟩
set_option maxHeartbeats 400000 in
theorem zdl (d:UInt8) (r:List UInt8) (w:World) (hs:r.length+2≤maxLen) (hd:d≠48) :
 Calls Tryz.prog 190 #[.string ⟨(45::d::r).toArray⟩] w fun e w'=>e=.returned (.bool (whole (45::d::r)))∧w=w':=by
 have hfin:whole (45::d::r)=digs (d::r):=by rw [KP];simp [yd,hd]
 rw [hfin]
 clear hfin
 have hm:(⟨(d::r).toArray⟩:ByteArray).size≤maxLen:=by show (d::r).toArray.size≤maxLen;simp;omega
 unfold maxLen at hs
 have h1:((d.toNat:Int) != 48)=true:=Kc (n:=48) (toNat_ne hd)
 have hx0:=YL d r (size_pos d r)
 clear hd
 have hx:=KV 45 (d::r)
 rw [show (d::r).length+1=r.length+1+1 from rfl] at hx
 go_enter Tryz.func190,Tryz.ntmps190
 go_wp2_with (go_at_call 210;refine (XU ⟨(d::r).toArray⟩ _ hm).mono ?_;rintro e w' ⟨rfl,rfl⟩)
 go_ret
 exact ⟨rfl,rfl⟩
set_option maxHeartbeats 400000 in
theorem zbY (d:UInt8) (r:List UInt8) (w:World) (hs:r.length+2≤maxLen) :
 Calls Tryz.prog 190 #[.string ⟨(48::d::r).toArray⟩] w fun e w'=>e=.returned (.bool (whole (48::d::r)))∧w=w':=by
 have hfin:whole (48::d::r)=false:=by rw [Qm (d::r) (by decide),KG];rfl
 rw [hfin]
 clear hfin
 unfold maxLen at hs
 have h0:((48::d::r:List UInt8)==[48])=false:=KG
 go_enter Tryz.func190,Tryz.ntmps190
 go_wp2
 go_ret
 exact ⟨rfl,rfl⟩
set_option maxHeartbeats 400000 in
theorem zeZ (d:UInt8) (r:List UInt8) (w:World) (hs:r.length+1≤maxLen) (hd:d≠48) (hd':d≠45) :
 Calls Tryz.prog 190 #[.string ⟨(d::r).toArray⟩] w fun e w'=>e=.returned (.bool (whole (d::r)))∧w=w':=by
 have h0:((d::r:List UInt8)==[48])=false:=ziN hd
 have hfin:whole (d::r)=digs (d::r):=by rw [Qm r hd',h0];simp [yd,hd]
 rw [hfin]
 clear hfin
 have hm:(⟨(d::r).toArray⟩:ByteArray).size≤maxLen:=by show (d::r).toArray.size≤maxLen;simp;omega
 unfold maxLen at hs
 have h1:((d.toNat:Int) != 48)=true:=Kc (n:=48) (toNat_ne hd)
 have hx0:=YL d r (size_pos d r)
 have h2:((d.toNat:Int)==45)=false:=zi1 (n:=45) (toNat_ne hd')
 clear hd hd'
 go_enter Tryz.func190,Tryz.ntmps190
 go_wp2_with (go_at_call 210;refine (XU ⟨(d::r).toArray⟩ _ hm).mono ?_;rintro e w' ⟨rfl,rfl⟩)
 go_ret
 exact ⟨rfl,rfl⟩
theorem Q5 (s:ByteArray) (w:World) (hs:s.size≤maxLen) :
 Calls Tryz.prog 190 #[.string s] w fun e w'=>e=.returned (.bool (whole s.data.toList))∧w=w':=by
 obtain ⟨⟨l⟩⟩:=s
 have hl:l.length≤maxLen:=hs
 show Calls Tryz.prog 190 #[.string ⟨l.toArray⟩] w fun e w'=>e=.returned (.bool (whole l))∧w=w'
 match l,hl with
 | [],_=>exact zhU w
 | c::r,hl =>
   simp only [List.length_cons] at hl
   by_cases h45:c=45
   ·subst h45
    match r,hl with
    | [],_=>exact zgE w
    | d::r,hl =>
      simp only [List.length_cons] at hl
      by_cases h48:d=48
      ·subst h48;exact zhg r w (by omega)
      ·exact zdl d r w (by omega) h48
   ·by_cases h48:c=48
    ·subst h48
     match r,hl with
     | [],_=>exact zeD w
     | d::r,hl =>
       simp only [List.length_cons] at hl
       exact zbY d r w (by omega)
    ·exact zeZ c r w (by omega) h48 h45
structure LaidC (w:World):Prop where
 tab:Lib.TabIs Tryz.prog w "internal/strconv.uint64pow10" .u64 Lib.pow10Tab
 rng:∃ tp p,w.var? Tryz.prog "strconv.ErrRange"=some #[.iface tp p]
theorem gPow:Tryz.prog.globalNamed "internal/strconv.uint64pow10"=some 5:=by kernel_rfl
theorem gRng:Tryz.prog.globalNamed "strconv.ErrRange"=some 4:=by kernel_rfl
theorem YW {P:Program} {w:World} {n:String} {g:Nat} {cs:Array Value} (hg:P.globalNamed n=some g) (h:w.var? P n=some cs):g < w.heap.size:=by
 unfold World.var? at h
 rw [hg] at h
 simp only [Option.bind_some] at h
 rcases Nat.lt_or_ge g w.heap.size with hlt | hge
 ·exact hlt
 ·rw [Array.getElem?_eq_none hge] at h;cases h
theorem LaidC.below {w w':World} (h:LaidC w) (hb:Below w.heap.size w w'):LaidC w':=by
 obtain ⟨tp,p,hv⟩:=h.rng
 exact ⟨var?_below hb gPow (YW gPow h.tab) h.tab,tp,p,var?_below hb gRng (YW gRng hv) hv⟩
theorem zcV (s:ByteArray) (w:World) (hs:s.size≤1000000) (v:Int) (h:Lib.parseIntB 64 s.data.toList=.ok v) :
 Calls Tryz.prog 191 #[.string s,.int .i64 10,.int .i64 64] w fun e w'=>e=.returned (.tuple #[.int .i64 v,.nilIface])∧Below w.heap.size w w':=by
 refine (Tryz.strconv_ParseInt_10_at64_ok s (by omega) v h w).mono ?_
 rintro e w' ⟨rfl,rfl | ⟨t,rfl⟩⟩
 ·exact ⟨rfl,Below.refl _ _⟩
 ·exact ⟨rfl,Lib.bytesWorld_below _ _ _⟩
theorem zhT (s:ByteArray) (w:World) (hs:s.size≤1000000) (hL:LaidC w) (h:Lib.parseIntB 64 s.data.toList=.range) :
 Calls Tryz.prog 191 #[.string s,.int .i64 10,.int .i64 64] w fun e w'=>(∃ N,e=.returned (.tuple #[.int .i64 (Lib.intSat 64 s.data.toList),.iface 325 (.pointer (some ⟨N,0,none⟩))]))∧Below w.heap.size w w':=by
 obtain ⟨tp,p,hv⟩:=hL.rng
 refine (Tryz.strconv_ParseInt_10_at64_range_var s (by omega) h tp p w hv).mono ?_
 rintro e w' ⟨N,rfl,_,_,hb⟩
 exact ⟨⟨N,rfl⟩,hb⟩
set_option maxHeartbeats 400000 in
theorem zcE (s:ByteArray) (w:World) (hs:s.size≤1000000) (hL:LaidC w) :
 Calls Tryz.prog 159 #[.string s] w fun e w'=>e=.returned (.tuple #[.int .i64 (parseV s.data.toList),.int .i64 (parseE s.data.toList)])∧Below w.heap.size w w':=by
 have hm:s.size≤maxLen:=by unfold maxLen;omega
 cases hw:whole s.data.toList with
 | false =>
   have e1:parseV s.data.toList=0:=by simp [parseV,hw]
   have e2:parseE s.data.toList=5:=by simp [parseE,hw]
   rw [e1,e2]
   clear e1 e2 hL
   go_enter Tryz.func159,Tryz.ntmps159
   go_wp2_with (go_at_call 190;refine (Q5 s _ hm).mono ?_;rintro e w' ⟨rfl,rfl⟩)
   go_ret2
   exact ⟨rfl,Below.refl _ _⟩
 | true =>
   have hp:=zhI hw
   have HL:=Lib.hid hL
   clear hL
   cases hf:fit (val s.data.toList) with
   | true =>
     have e1:parseV s.data.toList=val s.data.toList:=by simp [parseV,hw,hf]
     have e2:parseE s.data.toList=0:=by simp [parseE,hw,hf]
     rw [e1,e2]
     rw [hf,if_pos rfl] at hp
     clear e1 e2 hf
     have HP:=Lib.hid hp
     clear hp
     go_enter Tryz.func159,Tryz.ntmps159
     go_wp2_with (first | (go_at_call 190;refine (Q5 s _ hm).mono ?_;rintro e w' ⟨rfl,rfl⟩) | (go_at_call 191;refine (zcV s _ hs _ HP.out).mono ?_;rintro e w' ⟨rfl,hb⟩))
     go_ret2
     exact ⟨rfl,hb⟩
   | false =>
     have e1:parseV s.data.toList=0:=by simp [parseV,hw,hf]
     have e2:parseE s.data.toList=2:=by simp [parseE,hw,hf]
     rw [e1,e2]
     rw [hf,if_neg (by decide)] at hp
     clear e1 e2 hf
     have HP:=Lib.hid hp
     clear hp
     go_enter Tryz.func159,Tryz.ntmps159
     go_wp2_with (first | (go_at_call 190;refine (Q5 s _ hm).mono ?_;rintro e w' ⟨rfl,rfl⟩) | (go_at_call 191;refine (zhT s _ hs HL.out HP.out).mono ?_;rintro e w' ⟨⟨N,rfl⟩,hb⟩))
     go_ret2
     exact ⟨rfl,hb⟩
end Go.Proofs.YtdhfpgjnjlcciaaGreatDoor
end
section
namespace Go.Proofs.YtdhfpgjnjlcciaaGreatDoor
open Go.RowKit
def looksOnly (o:Oper):Bool :=
 match o.op with
 | .move _ | .assign _ | .load .. | .binOp .. | .unOp .. | .convert .. | .fieldAddr .. | .field .. | .indexAddr .. | .index .. | .extract .. | .slice .. | .lookup .. | .makeInterface .. | .box .. | .build .. | .pick ..=>true
 | .nilCheck _=>true
 | .call c=>match c.callee with
   | .builtin .len=>true
   | .builtin .cap=>true
   | _=>false
 | _=>false
theorem Q1 {α:Type} (P:Program) (s:Sem α) (g:α→Value) (w w':World) (n:Next) (h:(do pure (Next.value (g (←s))):Sem Next).run P w=.ok n w'):∃ v,n=.value v:=by
 simp only [Sem.run_bind] at h
 cases hs:s.run P w with
 | ok x w1 =>
   rw [hs] at h
   simp only [Result.andThen_ok,Sem.run_pure] at h
   cases h
   exact ⟨_,rfl⟩
 | halt x w1=>rw [hs] at h;simp [Result.andThen] at h
theorem zaB (P:Program) (w:World):∃ x,(runtimePanic .nilDeref:Sem Next).run P w=.halt x w:=⟨_,rfl⟩
theorem zbP {P:Program} {ρ:Operand→Value} {o:Oper} {w w':World} {n:Next} (hl:looksOnly o=true) (h:(execOp ρ o).run P w=.ok n w'):∃ v,n=.value v:=by
 obtain ⟨dst,op,type,pos,after,guard⟩:=o
 cases op <;> simp only [looksOnly,Bool.false_eq_true] at hl <;> simp only [execOp] at h
 case move x=>simp only [Sem.run_pure] at h;cases h;exact ⟨_,rfl⟩
 case assign x=>simp only [Sem.run_pure] at h;cases h;exact ⟨_,rfl⟩
 case nilCheck x =>
  split at h
  all_goals first
   | (simp only [Sem.run_pure] at h;cases h;exact ⟨_,rfl⟩)
   | (obtain ⟨x,hx⟩:=zaB P w;rw [hx] at h;cases h;done)
   | skip
  split at h
  ·obtain ⟨x,hx⟩:=zaB P w;rw [hx] at h;cases h
  ·rename_i t u _
   simp only [Sem.run_bind] at h
   have hp:(program:Sem Program).run P w=.ok P w:=rfl
   rw [hp] at h
   simp only [Result.andThen_ok] at h
   revert h
   generalize (nilAhead (P.types.size+Made.depth) t u _).run P w=r
   intro h
   cases r with
   | halt x w1=>simp [Result.andThen] at h
   | ok b w1 =>
     simp only [Result.andThen_ok] at h
     split at h
     ·simp only [Sem.run_bind,run_unsupported] at h
      simp [Result.andThen] at h
     ·simp only [Sem.run_pure] at h;cases h;exact ⟨_,rfl⟩
  ·simp only [Sem.run_pure] at h;cases h;exact ⟨_,rfl⟩
 case call c =>
  split at hl
  ·rename_i hc
   simp only [resolve,hc,invoke,builtin,Sem.run_bind,Sem.run_pure,Result.andThen_ok] at h
   exact Q1 P _ id _ _ _ (by simpa only [Sem.run_bind,Sem.run_pure,id] using h)
  ·rename_i hc
   simp only [resolve,hc,invoke,builtin,Sem.run_bind,Sem.run_pure,Result.andThen_ok] at h
   exact Q1 P _ id _ _ _ (by simpa only [Sem.run_bind,Sem.run_pure,id] using h)
  ·cases hl
 all_goals exact Q1 P _ _ _ _ _ h
section
variable {P:Program} {md:Region.Mode} {ops:Array Oper} {Q:Exit→Act→World→Prop} {S:World→Prop}
theorem zdf {o:Oper} {a:Act} {v:Value} (hl:looksOnly o=true) (hw:Region.wanted o (yielded ops a.tmps)=true) (h:∀ w,S w→o.quietAt P a S w v):YieldsIf P ops S o v a:=by
 refine .inl ⟨hw,fun w hs=>?_⟩
 have h1:=h w hs
 unfold Oper.quietAt at h1
 cases hr:(execOp a.eval o).run P w with
 | ok n w' =>
   rw [hr] at h1
   obtain ⟨u,rfl⟩:=zbP hl hr
   obtain ⟨rfl,rfl⟩:=h1
   rfl
 | halt x w'=>rw [hr] at h1;exact h1.elim
def nth:List Oper→Nat→List Oper→List Oper
 | [],_,more=>more
 | o::_,0,more=>o::more
 | _::l,i+1,more=>nth l i more
def pick (l:List Oper):List Nat→List Oper
 | []=>[]
 | i::r=>nth l i (pick l r)
theorem Yb {o:Oper}:∀ (l:List Oper) (i:Nat) (more:List Oper),l[i]?=some o→nth l i more=o::more
 | [],_,_,h=>by simp at h
 | x::l,0,more,h=>by simp at h;subst h;rfl
 | x::l,i+1,more,h=>by simp at h;exact Yb l i more h
def marked (listed:Array Bool):List Nat→Array Bool
 | []=>listed
 | i::r=>marked (listed.setIfInBounds i true) r
def sweepB (md:Region.Mode) (ops:Array Oper):List Nat→Array Bool→Bool
 | [],_=>true
 | i::r,listed=>((ops[i]?).map looksOnly).getD false && Region.free md ops listed i && (Region.ready md ops listed).contains i && sweepB md ops r (listed.setIfInBounds i true)
theorem sweep {l:List Oper} (hs:Region.noSelect l.toArray=true) (hQ:∀ d v c a w,Q (.panic c) (Act.put a d v) w→Q (.panic c) a w) {R:Act→Prop} {w:World} (hS:S w) :
 ∀ (q:List Nat) (fuel:Nat) (listed:Array Bool) (a:Act),sweepB md l.toArray q listed=true→wpQuiet P l.toArray S R (pick l q) a →
   (∀ a',R a'→wpAnyH P md l.toArray Q S fuel (marked listed q) a' w)→wpAnyH P md l.toArray Q S (fuel+q.length) listed a w
 | [],_,_,_,_,h,hr=>hr _ h
 | i::r,fuel,listed,a,hB,h,hr=>by
   simp only [sweepB,Bool.and_eq_true] at hB
   obtain ⟨⟨⟨hl,hf⟩,hc⟩,hB'⟩:=hB
   obtain ⟨o,ho⟩:∃ o,l.toArray[i]?=some o:=by
    cases he:l.toArray[i]? with
    | none=>rw [he] at hl;simp at hl
    | some o=>exact ⟨o,rfl⟩
   rw [ho] at hl
   simp only [Option.map_some,Option.getD_some] at hl
   have hp:pick l (i::r)=o::pick l r:=Yb l i _ (by simpa using ho)
   rw [hp] at h
   have hlen:fuel+(i::r).length=(fuel+r.length)+1:=by simp;omega
   rw [hlen]
   unfold wpQuiet at h
   by_cases hw:Region.wanted o (yielded l.toArray a.tmps)=true
   ·rw [if_pos hw] at h
    obtain ⟨v,hv,hk⟩:=h
    exact wpAnyH_take ho hs hf hc (fun c a' w'=>hQ _ _ c a' w') (zdf hl hw hv) hS (sweep hs hQ hS r fuel _ _ hB' hk hr)
   ·rw [if_neg hw] at h
    exact wpAnyH_take ho hs hf hc (fun c a' w'=>hQ _ _ c a' w') (.inr ⟨by simpa using hw,rfl⟩) hS (sweep hs hQ hS r fuel _ _ hB' h hr)
def alone (P:Program) (ops:Array Oper) (Q:Exit→Act→World→Prop) (K:Act→World→Prop) (a:Act) (w:World):List Oper→Prop
 | []=>False
 | o::_=>if Region.wanted o (yielded ops a.tmps) then o.wp P a w K Q else K (a.put o.dst undef) w
inductive Plan where
 | last (q:List Nat)
 | one (q:List Nat) (k:Nat) (n:Plan)
 | two (q:List Nat) (k1:Nat) (n1:Plan) (k2:Nat) (n2:Plan)
def wpPlan (P:Program) (l:List Oper) (Q:Exit→Act→World→Prop) (S:World→Prop):Plan→Act→World→Prop
 | .last q,a,w=>wpQuiet P l.toArray S (fun a'=>Q .normal a' w) (pick l q) a
 | .one q k n,a,w=>wpQuiet P l.toArray S (fun a'=>∀ K:Act→World→Prop,(∀ a2 w2,S w2→wpPlan P l Q S n a2 w2→K a2 w2)→alone P l.toArray Q K a' w (nth l k [])) (pick l q) a
 | .two q k1 n1 k2 n2,a,w=>wpQuiet P l.toArray S (fun a'=>(∀ K:Act→World→Prop,(∀ a2 w2,S w2→wpPlan P l Q S n1 a2 w2→K a2 w2)→alone P l.toArray Q K a' w (nth l k1 []))∧(∀ K:Act→World→Prop,(∀ a2 w2,S w2→wpPlan P l Q S n2 a2 w2→K a2 w2)→alone P l.toArray Q K a' w (nth l k2 []))) (pick l q) a
def planN:Plan→Nat
 | .last q=>q.length
 | .one q _ n=>planN n+1+q.length
 | .two q _ n _ _=>planN n+1+q.length
def planB (md:Region.Mode) (ops:Array Oper):Plan→Array Bool→Bool
 | .last q,listed=>sweepB md ops q listed && (Region.ready md ops (marked listed q)).isEmpty
 | .one q k n,listed=>sweepB md ops q listed && decide (Region.ready md ops (marked listed q)=[k]) && planB md ops n ((marked listed q).setIfInBounds k true)
 | .two q k1 n1 k2 n2,listed=>sweepB md ops q listed && decide (Region.ready md ops (marked listed q)=[k1,k2]) && (planN n1==planN n2) && planB md ops n1 ((marked listed q).setIfInBounds k1 true) && planB md ops n2 ((marked listed q).setIfInBounds k2 true)
theorem Yw {l:List Oper} {i:Nat} {K:Act→World→Prop} {a:Act} {w:World} {listed:Array Bool} (hr:i∈Region.ready md l.toArray listed) (hk:alone P l.toArray Q K a w (nth l i [])):wpOp P l.toArray Q i K a w:=by
 obtain ⟨_,o,ho,_⟩:=mem_ready.1 hr
 rw [Yb l i [] (by simpa using ho)] at hk
 unfold wpOp
 simp only [ho]
 simp only [alone] at hk
 split
 ·rename_i hw;rw [if_pos hw] at hk;exact .inl hk
 ·rename_i hw;rw [if_neg hw] at hk;exact hk
theorem xk {l:List Oper} (hs:Region.noSelect l.toArray=true) (hQ:∀ d v c a w,Q (.panic c) (Act.put a d v) w→Q (.panic c) a w) :
 ∀ (p:Plan) (listed:Array Bool) (a:Act) (w:World),planB md l.toArray p listed=true→S w→wpPlan P l Q S p a w→wpAnyH P md l.toArray Q S (planN p) listed a w
 | .last q,listed,a,w,hB,hS,h=>by
   simp only [planB,Bool.and_eq_true,List.isEmpty_iff] at hB
   have:=sweep (md:=md) hs hQ hS q 0 listed a hB.1 h (fun a' ha=>wpAnyH_done hB.2 ha 0)
   simpa [planN] using this
 | .one q k n,listed,a,w,hB,hS,h=>by
   simp only [planB,Bool.and_eq_true,decide_eq_true_eq] at hB
   obtain ⟨⟨h1,h2⟩,h3⟩:=hB
   refine sweep (md:=md) hs hQ hS q (planN n+1) listed a h1 h (fun a' ha=>?_)
   refine wpAnyH_all h2 (by simp) (fun i hi=>?_)
   simp only [List.mem_singleton] at hi
   subst hi
   exact Yw (by rw [h2];simp) (ha _ (fun a2 w2 hs2 h4=>⟨hs2,xk hs hQ n _ a2 w2 h3 hs2 h4⟩))
 | .two q k1 n1 k2 n2,listed,a,w,hB,hS,h=>by
   simp only [planB,Bool.and_eq_true,decide_eq_true_eq,beq_iff_eq] at hB
   obtain ⟨⟨⟨⟨h1,h2⟩,hn⟩,h3⟩,h4⟩:=hB
   refine sweep (md:=md) hs hQ hS q (planN n1+1) listed a h1 h (fun a' ha=>?_)
   refine wpAnyH_all h2 (by simp) (fun i hi=>?_)
   simp only [List.mem_cons,List.not_mem_nil,or_false] at hi
   rcases hi with rfl | rfl
   ·exact Yw (by rw [h2];simp) (ha.1 _ (fun a2 w2 hs2 h5=>⟨hs2,xk hs hQ n1 _ a2 w2 h3 hs2 h5⟩))
   ·rw [hn]
    exact Yw (by rw [h2];simp) (ha.2 _ (fun a2 w2 hs2 h5=>⟨hs2,xk hs hQ n2 _ a2 w2 h4 hs2 h5⟩))
structure Since (B:Nat) (w:World) where
 goal:World
 below:Below B w goal
instance (B:Nat) (w:World):Nonempty (Since B w):=⟨⟨w,Below.refl _ _⟩⟩
theorem jI {B:Nat} {w:World} {ad:Addr} {v:Value} (h:w.cell? ad=some v) (hB:ad.block < B) (p:Since B w):p.goal.cell? ad=some v:=(p.below.cell hB).trans h
theorem jA {B:Nat} {w0 w:World} (h:Below B w0 w):∃ p:Since B w0,w=p.goal:=⟨⟨w,h⟩,rfl⟩
theorem Zv {id:Nat} {l:List Oper} {a:Act} {w:World} (p:Plan) (hm:P.follows .mixedOrders=true)
 (hs:(Region.noSelect l.toArray && planB .any l.toArray p (Array.replicate l.toArray.size false) && (planN p==l.toArray.size))=true)
 (hQ:∀ d v c a w,Q (.panic c) (Act.put a d v) w→Q (.panic c) a w) (hS:S w.drew)
 (h:wpPlan P l Q S p a w.drew):(Code.region id l.toArray true).wp P Q a w:=by
 simp only [Bool.and_eq_true,beq_iff_eq] at hs
 refine wp_region_held (S:=S) hm ?_
 have:=xk (P:=P) hs.1.1 hQ p _ a w.drew hs.1.2 (S:=S) hS h
 rw [hs.2] at this
 exact this
theorem qX {id:Nat} {l:List Oper} {a:Act} {w:World} (p:Plan) (hm:P.follows .mixedOrders=true)
 (hs:(Region.noSelect l.toArray && planB .any l.toArray p (Array.replicate l.toArray.size false) && (planN p==l.toArray.size))=true)
 (hQ:∀ d v c a w,Q (.panic c) (Act.put a d v) w→Q (.panic c) a w)
 (h:wpPlan P l Q (fun w'=>∃ p:Past w,w'=p.goal) p a w.drew):(Code.region id l.toArray true).wp P Q a w :=
 Zv p hm hs hQ ⟨⟨w.drew,⟨rfl,rfl,rfl,Nat.le_refl _,fun _ _=>rfl⟩⟩,rfl⟩ h
theorem JX (B:Nat) {id:Nat} {l:List Oper} {a:Act} {w:World} (p:Plan) (hm:P.follows .mixedOrders=true)
 (hs:(Region.noSelect l.toArray && planB .any l.toArray p (Array.replicate l.toArray.size false) && (planN p==l.toArray.size))=true)
 (hQ:∀ d v c a w,Q (.panic c) (Act.put a d v) w→Q (.panic c) a w)
 (h:wpPlan P l Q (fun w'=>∃ p:Since B w,w'=p.goal) p a w.drew):(Code.region id l.toArray true).wp P Q a w :=
 Zv p hm hs hQ ⟨⟨w.drew,⟨rfl,rfl,rfl,Nat.le_refl _,fun _ _=>rfl⟩⟩,rfl⟩ h
end
theorem ze {P:Program} {ops:Array Oper} {Q:Exit→Act→World→Prop} {K:Act→World→Prop} {a:Act} {w:World} {o:Oper} {l:List Oper} (hw:Region.wanted o (yielded ops a.tmps)=true) (h:o.wp P a w K Q):alone P ops Q K a w (o::l):=by
 simp only [alone];rw [if_pos hw];exact h
theorem zy {w0 w:World} (h:Below w0.heap.size w0 w):∃ p:Past w0,w=p.goal:=⟨⟨w,h⟩,rfl⟩
end Go.Proofs.YtdhfpgjnjlcciaaGreatDoor
end
section
namespace Go.Proofs.YtdhfpgjnjlcciaaGreatDoor.Fa
open Go.RowKit
def putL:List Value→Nat→List Value→List Value
 | xs,_,[]=>xs
 | xs,o,v::r=>putL (xs.set o v) (o+1) r
theorem Qx:∀ (vs A X D:List Value),X.length=vs.length→putL (A++X++D) A.length vs=A++vs++D
 | [],A,X,D,h=>by
   have:X=[]:=List.eq_nil_of_length_eq_zero h
   subst this
   rfl
 | v::vs,A,[],D,h=>by simp at h
 | v::vs,A,x::X,D,h=>by
   have e:(A++x::X++D).set A.length v=(A++[v])++X++D:=by
    rw [List.append_assoc,List.set_append_right _ _ (Nat.le_refl _),Nat.sub_self]
    simp
   have ih:=Qx vs (A++[v]) X D (by simpa using h)
   rw [List.length_append,List.length_singleton] at ih
   show putL ((A++x::X++D).set A.length v) (A.length+1) vs=_
   rw [e,ih]
   simp
theorem zdB {α:Type} (E:Enc α) (L:List α) (i:Nat) (y:α) (hi:i < L.length):putL (flat E L) (i * E.k) (E.cs y)=flat E (L.set i y):=by
 have e:L=L.take i++L[i]::L.drop (i+1):=by rw [←List.drop_eq_getElem_cons hi,List.take_append_drop]
 have e2:L.set i y=L.take i++y::L.drop (i+1):=by rw [List.set_eq_take_append_cons_drop,if_pos hi]
 have h1:(flat E (L.take i)).length=i * E.k:=by rw [qv,List.length_take,Nat.min_eq_left (by omega)]
 conv=>lhs;rw [e]
 rw [qy,ja,←List.append_assoc,←h1,Qx (E.cs y) _ _ _ (by rw [E.len,E.len]),e2,qy,ja,List.append_assoc]
theorem XW {w:World} {B g s n c:Nat} {e:TypeId} {xs:List Value} (h:w.ownsRow B e s (.slice (some ⟨g,0,none⟩) n c) n xs):∀ (vs:List Value) (o:Nat),(w.setCells g o vs).ownsRow B e s (.slice (some ⟨g,0,none⟩) n c) n (putL xs o vs)∧w.grownBy (w.setCells g o vs) (some g):=by
 intro vs
 induction vs generalizing w xs with
 | nil=>intro o;exact ⟨h,World.grownBy.refl w _⟩
 | cons v vs ih =>
   intro o
   obtain ⟨s1,g1⟩:=World.ownsRow.stored h o v
   obtain ⟨s2,g2⟩:=ih s1 (o+1)
   exact ⟨s2,g1.trans g2⟩
theorem Vh {α:Type} {E:Enc α} {P:Program} {o:Oper} {a:Act} {w:World} {K:Act→World→Prop} {Q:Exit→Act→World→Prop} (ty:TypeId) (x y:Operand) (ho:o.op=.store ty x y)
 (B g n c:Nat) (e:TypeId) (L:List α) (i:Nat) (z:α) (hx:a.eval x=.pointer (some ⟨g,i * E.k,none⟩)) (hy:a.eval y=.agg (E.cs z).toArray) (hrow:w.ownsRow B e E.k (.slice (some ⟨g,0,none⟩) n c) n (flat E L)) (hn:L.length=n) (hi:i < n) (hti:(P.info? ty).map (·.size)=some E.k)
 (h:∀ w',w'.ownsRow B e E.k (.slice (some ⟨g,0,none⟩) n c) n (flat E (L.set i z))→w.grownBy w' (some g)→K (a.put o.dst undef) w'):o.wp P a w K Q:=by
 subst hn
 have hfr:∀ j,w.frozen? ⟨g,j,none⟩=false:=fun j=>by
  rcases hrow.2 with ⟨h',_⟩ | ⟨g',cap',cur,h',_,hg,_⟩
  ·cases h'
  ·cases h';simp [World.frozen?,hg]
 have hst:=run_storeCells_cells (P:=P) g (i * E.k) (E.cs z) 0 w (fun j hj=>by
  rw [E.len] at hj
  have hxl:j < (E.cs L[i]).length:=by rw [E.len];exact hj
  have:=hrow.cells (g:=g) rfl _ _ (jj L i L[i] (List.getElem?_eq_getElem hi) j _ (List.getElem?_eq_getElem hxl))
  rw [zl,Nat.zero_add] at this
  rw [Nat.add_zero,this];rfl) (fun j _=>hfr _) (E.one z)
 rw [Nat.add_zero] at hst
 have hrun:(storeVar ty ⟨g,i * E.k,none⟩ (.agg (E.cs z).toArray)).run P w=.ok () (w.setCells g (i * E.k) (E.cs z)):=by
  cases hq:P.info? ty with
  | none=>simp [hq] at hti
  | some inf =>
    have hs:E.k=inf.size:=by simp [hq] at hti;omega
    simp [storeVar,sizeOf,typeInfo,hq,Value.cells,hs.symm,E.len,hst]
 obtain ⟨h1,h2⟩:=XW hrow (E.cs z) (i * E.k)
 rw [zdB E L i z hi] at h1
 unfold Oper.wp execOp
 simp only [ho,hx,hy,Instr.storeAt,Instr.sureAddr,Sem.run_bind,Sem.run_pure,Result.andThen_ok,hrun]
 exact h _ h1 h2
theorem zhp {α:Type} {E:Enc α} {w:World} {B b:Nat} {t:TypeId} {a:α} (h:BoxE E w b t a) (hB:B≤b):w.ownsRow B t E.k (.slice (some ⟨b,0,none⟩) 1 1) 1 (flat E [a]) :=
 ⟨by rw [qv];simp,.inr ⟨b,1,_,rfl,hB,h,Nat.le_refl _,by unfold maxLen;omega,by simp [E.len],by rw [jY];simp [List.take_of_length_le,E.len]⟩⟩
theorem zbZ {α:Type} {E:Enc α} {w:World} {B b c:Nat} {t:TypeId} {a:α} (h:w.ownsRow B t E.k (.slice (some ⟨b,0,none⟩) 1 c) 1 (flat E [a])):ElAt E w b 0 a:=fun j v hj=>by
 have:=h.cells (g:=b) rfl j v (by rw [jY];exact hj)
 rwa [zl] at this
theorem JG {α:Type} {E:Enc α} {P:Program} {o:Oper} {a:Act} {w:World} {K:Act→World→Prop} {Q:Exit→Act→World→Prop} (ty:TypeId) (x y:Operand) (ho:o.op=.store ty x y)
 (g:Nat) (t:TypeId) (z0 z:α) (hx:a.eval x=.pointer (some ⟨g,0,none⟩)) (hy:a.eval y=.agg (E.cs z).toArray) (hg:BoxE E w g t z0) (hti:(P.info? ty).map (·.size)=some E.k)
 (h:∀ w',ElAt E w' g 0 z→w.grownBy w' (some g)→K (a.put o.dst undef) w'):o.wp P a w K Q :=
 Vh ty x y ho g g 1 1 t [z0] 0 z (by rw [Nat.zero_mul];exact hx) hy (zhp hg (Nat.le_refl _)) rfl (by omega) hti (fun w' h1 h2=>h w' (zbZ h1) h2)
end Go.Proofs.YtdhfpgjnjlcciaaGreatDoor.Fa
end
section
namespace Go.Proofs.YtdhfpgjnjlcciaaGreatDoor.Pk
open Go.RowKit Go.Maps Go.Proofs.YtdhfpgjnjlcciaaGreatDoor.Un
structure Leave (ok:Nat→Prop) (w:World) where
 its:World
 keep:∀ j,ok j→j < w.heap.size→its.heap[j]?=w.heap[j]?
instance (ok:Nat→Prop) (w:World):Nonempty (Leave ok w):=⟨⟨w,fun _ _ _=>rfl⟩⟩
theorem zJ {ok:Nat→Prop} {w:World} {ad:Addr} {v:Value} (h:w.cell? ad=some v) (hb:ok ad.block) (p:Leave ok w):p.its.cell? ad=some v:=by
 have hlt:=World.block_lt_of_cell? w _ h
 have:=p.keep ad.block hb hlt
 unfold World.cell? at h ⊢
 rw [this];exact h
theorem zN {ok:Nat→Prop} {w0 w:World} (h:∀ j,ok j→j < w0.heap.size→w.heap[j]?=w0.heap[j]?):∃ p:Leave ok w0,w=p.its:=⟨⟨w,h⟩,rfl⟩
theorem xC {α:Type} {E:Enc α} {P:Program} {o:Oper} {a:Act} {w:World} {K:Act→World→Prop} {Q:Exit→Act→World→Prop} (s x:Operand) (t e:TypeId) (ho:o.op=.call { callee:=.builtin .append,args:=#[s,x],argTypes:=#[t,t] }) (HI:InfoE P t e E)
 (B:Nat) (v:Value) (L:List α) (y:α) (g:Nat) (hs:a.eval s=v) (hrow:w.ownsRow B e E.k v L.length (flat E L)) (hx:a.eval x=.slice (some ⟨g,0,none⟩) 1 1) (hc:ElAt E w g 0 y) (hB:B≤w.heap.size) (hL:L.length≤1000000)
 (h:∀ v' w',w'.ownsRow B e E.k v' (L++[y]).length (flat E (L++[y]))→Below B w w'→w.grownBy w' v.ownBlock→K (a.put o.dst v') w'):o.wp P a w K Q:=by
 obtain ⟨i,z,n,hi,hz,hsz,hn,hzs,hb⟩:=HI.info
 refine wp_append_own w s x t ho B e i z E.k n HI.under hi hz hsz hn hzs E.pos v L.length _ hs hrow ⟨g,0,none⟩ 1 1 (E.cs y) hx (by rw [E.len,Nat.one_mul]) (fun j u hj=>by rw [zl];exact hc j u hj) (E.one y) (by unfold maxLen;omega) ?_ hB ?_
 ·exact Nat.le_trans (Nat.mul_le_mul (Nat.add_le_add_right hL 1) hb) (by decide)
 ·intro v' w' h1 h2 _
  exact h v' w' (by rw [qy,jY,List.length_append];exact h1) (below_grown (Below.refl _ _) hB hrow h2) h2
theorem infoFs:InfoE Tryz.prog 48 76 Fa.encF:=.of (z:=.agg #[.string ⟨#[]⟩,.string ⟨#[]⟩,.string ⟨#[]⟩,.string ⟨#[]⟩,.int .i64 0,.int .i64 0]) (n:=80) Tryz.underlying48 (by kernel_rfl) rfl (by decide)
theorem PkAt.put {w w':World} {B R m n:Nat} {c f e l v v':Value} {D:DataW Unit} {M:Mast} {S:St} (h:PkAt w B R m c f e l M n D S v) (o:Obj) (x:Fa.Fact) (hg:(w.alloc o).grownBy w' v.ownBlock)
 (hr:w'.ownsRow B 76 6 v' (S.facts++[x]).length (flat Fa.encF (S.facts++[x]))) :
 w'.cell? ⟨R,12,none⟩=some v∧w'.frozen? ⟨R,12,none⟩=false∧PkAt (w'.setCell ⟨R,12,none⟩ v') B R m c f e l M n D ⟨S.ent,S.mrk,S.had,S.facts++[x]⟩ v':=by
 have h1:=h.below ((Below.refl w.heap.size w).alloc (Nat.le_refl _) o)
 have hne:=jC h1.box h1.facts (by decide)
 have hbx:BoxPk w' R m c f e l M S v:=(hg.block R h1.lt (fun e0=>hne e0.symm)).trans h1.box
 have hmp:MapPk w' m n D:=h1.map.kept hg (Vu h1.map h1.facts)
 have hg2:w'.grownBy (w'.setCell ⟨R,12,none⟩ v') (some R):=⟨rfl,rfl,rfl,by simp [World.setCell],fun k _ hk=>Below.heap_setCell w' _ v' k (fun e0=>hk (by rw [e0]))⟩
 refine ⟨(cell_of_row w' R 12 _ _ (0,0) hbx).trans rfl,?_,⟨?_,hr.kept hg2 (ko (jC hbx hr (by decide))),hmp.kept hg2 (fun e0=>h.apart (Option.some.inj e0).symm),h.had,h.geR,h.geM⟩⟩
 ·have:=hbx
  unfold BoxPk at this
  simp [World.frozen?,this]
 ·exact Joins.block_setCell (i:=12) hbx v'
theorem qn {W:World} {B:Nat} {e:TypeId} {s n:Nat} {v:Value} {xs:List Value} (h:W.ownsRow B e s v n xs):∃ a c k,v=.slice a k c:=by
 rcases h.2 with ⟨rfl,_⟩ | ⟨g,cap,cur,rfl,_⟩
 ·exact ⟨_,_,_,rfl⟩
 ·exact ⟨_,_,_,rfl⟩
theorem zeS {W:World} {B:Nat} {e:TypeId} {s n:Nat} {v:Value} {xs:List Value} (h:W.ownsRow B e s v n xs) {g:Nat} (hg:v.ownBlock=some g):g < W.heap.size:=by
 rcases h.2 with ⟨rfl,_⟩ | ⟨g',cap,cur,rfl,_,hb,_⟩
 ·simp [Value.ownBlock] at hg
 ·obtain rfl:g'=g:=by simpa [Value.ownBlock] using hg
  exact (Array.getElem?_eq_some_iff.1 hb).1
set_option maxRecDepth 100000 in
set_option maxHeartbeats 32000000 in
theorem zcN (u:Value) (a b p am:ByteArray) (W:World) (B R m:Nat) (c f e l:Value) (M:Mast) (n:Nat) (D:DataW Unit) (S:St) (v:Value) (hu:StrsV W u [a,b,p,am]) (hB:B≤W.heap.size) (hm:MastIn W c f e l M) (hsn:Sane M) (hlc:LaidC W) (ham:am.size≤1000000) (hfl:S.facts.length≤1000000) (h:PkAt W B R m c f e l M n D S v) :
 Calls Tryz.prog 115 #[.pointer (some ⟨R,0,none⟩),u] W (LineP W B R m n c f e l M ⟨S.ent,S.mrk,S.had,S.facts++[factV S [tFact,a,b,p,am]]⟩ (factE M S [tFact,a,b,p,am])):=by
 obtain ⟨q,cp,rfl,_,_,hc⟩:=hu
 obtain ⟨g,o,rfl,k0⟩:=hc 0 a rfl
 obtain ⟨g',o',e1,k1⟩:=hc 1 b rfl
 cases e1
 obtain ⟨g',o',e1,k2⟩:=hc 2 p rfl
 cases e1
 obtain ⟨g',o',e1,k3⟩:=hc 3 am rfl
 cases e1
 rw [Nat.add_zero] at k0
 obtain ⟨pc,cc,pf,cf,pe,ce,pl,cl,rfl,rfl,rfl,rfl⟩:=shapes hm
 have HB0:=Lib.hid hB
 have HM:=Lib.hid hm
 have HP:=Lib.hid h
 have HLC:=Lib.hid hlc
 obtain ⟨EN,hEN⟩:∃ EN,S.ent=EN:=⟨_,rfl⟩
 obtain ⟨MK,hMK⟩:∃ MK,S.mrk=MK:=⟨_,rfl⟩
 obtain ⟨PP,hPP⟩:∃ PP,parB p=PP:=⟨_,rfl⟩
 obtain ⟨AV,hAV⟩:∃ AV,parseV am.data.toList=AV:=⟨_,rfl⟩
 obtain ⟨AE,hAE⟩:∃ AE,parseE am.data.toList=AE:=⟨_,rfl⟩
 have hK:keyF S [tFact,a,b,p,am]=⟨EN,a,b,PP,MK⟩:=by rw [←hEN,←hMK,←hPP];rfl
 have hF:factV S [tFact,a,b,p,am]=⟨⟨EN,a,b,PP,MK⟩,AV⟩:=by unfold factV;rw [hK,←hAV];rfl
 have hE:factE M S [tFact,a,b,p,am]=if (decide (EN=emp) || !namedK ⟨EN,a,b,PP,MK⟩)=true then 5 else if AE=0 then checkE M ⟨EN,a,b,PP,MK⟩ else AE:=by
  unfold factE
  rw [hK,hEN,show wd [tFact,a,b,p,am] 4=am from rfl,hAE]
 have HPO:=Lib.hid (fun W=>zij p W)
 have HNA:=Lib.hid (fun W=>zeo ⟨EN,a,b,PP,MK⟩ W)
 have HCN:=Lib.hid (fun W hW=>zcE am W ham hW)
 have HCK:=Lib.hid (fun W h=>yJ (.slice pc M.chart.length cc) (.slice pf M.flows.length cf) (.slice pe M.ents.length ce) (.slice pl M.lines.length cl) M ⟨⟨EN,a,b,PP,MK⟩,AV⟩ W h (Fl.qm hsn.fl) (by have:=hsn.lf;omega))
 simp only [hPP] at HPO
 simp only [hAV,hAE] at HCN
 obtain ⟨NM,hNM⟩:∃ N,namedK ⟨EN,a,b,PP,MK⟩=N:=⟨_,rfl⟩
 obtain ⟨CE,hCE⟩:∃ N,checkE M ⟨EN,a,b,PP,MK⟩=N:=⟨_,rfl⟩
 simp only [hNM] at HNA
 simp only [hCE] at HCK
 rw [hNM,hCE] at hE
 obtain ⟨E,hEE⟩:∃ E,factE M S [tFact,a,b,p,am]=E:=⟨_,rfl⟩
 rw [hEE] at hE
 rw [hF,hEE]
 have HE:=Lib.hid hE
 obtain ⟨d9,d10,d11,d12⟩:=h.four
 rw [hEN] at d10
 rw [hMK] at d11
 have HEN:=Lib.hid hEN
 have HMK:=Lib.hid hMK
 have HFL:=Lib.hid hfl
 clear hc hm h hB hlc hEN hMK hPP hAV hAE hK hF hE hNM hCE hEE hsn ham hfl d9
 go_enter Tryz.func115,Tryz.ntmps115
 go_wp2_with fail
 have r0:=fun q:Past W=>za k0 q
 have r1:=fun q:Past W=>za k1 q
 have r2:=fun q:Past W=>za k2 q
 have r10:=fun q:Past W=>za d10 q
 have r11:=fun q:Past W=>za d11 q
 have HK3:=Lib.hid k3
 clear k0 k1 k2 k3 d10 d11 d12
 refine qX (.two [0,1,2,3,4,5,6,7,8,9,10,11,12,14,15,16,17] 13 (.one [18] 19 (.one [] 20 (.last []))) 19 (.one [] 13 (.one [18] 20 (.last [])))) (by kernel_rfl) (by kernel_rfl) (fun d _ _ _ _ h=>by cases d <;> exact h) ?_
 obtain ⟨wq,hwq⟩:∃ wq,W.drew=wq:=⟨_,rfl⟩
 rw [hwq]
 have HD:Hid (Below W.heap.size W wq):=Lib.hid (by rw [←hwq];exact ⟨rfl,rfl,rfl,Nat.le_refl _,fun _ _=>rfl⟩)
 clear hwq
 have HZ0:=Lib.hid (BoxE.new Fa.encK wq ⟨⟨#[]⟩,⟨#[]⟩,⟨#[]⟩,⟨#[]⟩,0⟩ 74)
 have hbz:=(Below.refl wq.heap.size wq).alloc (Nat.le_refl _) (.cells (Fa.encK.cs ⟨⟨#[]⟩,⟨#[]⟩,⟨#[]⟩,⟨#[]⟩,0⟩).toArray 74)
 have HBZ:=Lib.hid hbz
 clear hbz
 simp only [wpPlan,pick,nth]
 repeat (go_big_quiet_step (fail))
 refine wpQuiet_nil ?_
 clear r0 r1 r2 r10 r11
 refine ⟨?_,?_⟩
 intro K hK
 refine ze (by kernel_rfl) ?_
 go_big_op
 refine (HPO.out wq).mono ?_
 rintro en w' ⟨rfl,rfl⟩
 refine hK _ _ (zy HD.out) ?_
 clear hK K
 repeat (go_big_quiet_step (fail))
 refine wpQuiet_nil ?_
 intro K hK
 refine ze (by kernel_rfl) ?_
 go_big_op
 refine hK _ _ (zy (HD.out.trans (HBZ.out.mono HD.out.size))) ?_
 clear hK K
 refine wpQuiet_nil ?_
 intro K hK
 refine ze (by kernel_rfl) ?_
 refine Fa.JG (E:=Fa.encK) 74 (.tmp 5) (.tmp 28) rfl wq.heap.size 74 ⟨⟨#[]⟩,⟨#[]⟩,⟨#[]⟩,⟨#[]⟩,0⟩ ⟨EN,a,b,PP,MK⟩ rfl rfl HZ0.out (by kernel_rfl) ?_
 intro w5 hat5 hg5
 have HK5:=Lib.hid hat5
 have HB5:=Lib.hid (HD.out.trans ((HBZ.out.grown hg5 HBZ.out.size (fun j hj=>by cases hj;exact Nat.le_refl _)).mono HD.out.size))
 clear hat5 hg5
 refine hK _ _ (zy HB5.out) ?_
 clear hK K
 simp only [Act.put]
 refine wpQuiet_nil ?_
 rotate_left
 intro K hK
 refine ze (by kernel_rfl) ?_
 go_big_op
 refine hK _ _ (zy (HD.out.trans (HBZ.out.mono HD.out.size))) ?_
 clear hK K
 refine wpQuiet_nil ?_
 intro K hK
 refine ze (by kernel_rfl) ?_
 go_big_op
 refine (HPO.out _).mono ?_
 rintro en w' ⟨rfl,rfl⟩
 refine hK _ _ (zy (HD.out.trans (HBZ.out.mono HD.out.size))) ?_
 clear hK K
 repeat (go_big_quiet_step (fail))
 refine wpQuiet_nil ?_
 intro K hK
 refine ze (by kernel_rfl) ?_
 refine Fa.JG (E:=Fa.encK) 74 (.tmp 5) (.tmp 28) rfl wq.heap.size 74 ⟨⟨#[]⟩,⟨#[]⟩,⟨#[]⟩,⟨#[]⟩,0⟩ ⟨EN,a,b,PP,MK⟩ rfl rfl HZ0.out (by kernel_rfl) ?_
 intro w5 hat5 hg5
 have HK5:=Lib.hid hat5
 have HB5:=Lib.hid (HD.out.trans ((HBZ.out.grown hg5 HBZ.out.size (fun j hj=>by cases hj;exact Nat.le_refl _)).mono HD.out.size))
 clear hat5 hg5
 refine hK _ _ (zy HB5.out) ?_
 clear hK K
 simp only [Act.put]
 refine wpQuiet_nil ?_
 all_goals
  have HP5:=Lib.hid (HP.out.below HB5.out)
  have HM5:=Lib.hid (HM.out.keep HB5.out)
  obtain ⟨_,d10,d11,d12⟩:=HP5.out.four
  rw [HEN.out] at d10
  obtain ⟨y0,y1,y2,y3,y4⟩:=Fa.key5 HK5.out
  simp only [Nat.zero_add] at y0 y1 y2 y3 y4
  by_cases hen:EN=emp
  ·have hq:EN.toList.isEmpty=true:=by subst hen;rw [ByteArray.toList_eq];rfl
   have HNN:Hid (E=5):=Lib.hid (by rw [HE.out,if_pos (by simp [hen])])
   clear hen
   go_wp2
   go_ret
   exact ⟨by rw [HNN.out];rfl,HB5.out.mono HB0.out,fun h=>by rw [HNN.out] at h;cases h⟩
  have hq:EN.toList.isEmpty=false:=by
   have:=(ji EN).2 hen
   unfold neB at this
   simpa using this
  have HE2:Hid (E=if NM=false then 5 else if AE=0 then CE else AE):=Lib.hid (by rw [HE.out,decide_eq_false hen];cases NM <;> simp)
  clear hen
  go_wp2_with fail
  clear y0 y1 y2 y3 y4 d10 d11 d12
  refine (HNA.out _).mono ?_
  rintro en w6 ⟨rfl,hb6⟩
  have HB6:=Lib.hid (HB5.out.trans (hb6.mono HB5.out.size))
  have HP6:=Lib.hid (HP5.out.below hb6)
  have HK6:=Lib.hid (HK5.out.keep hb6 HK5.out.lt)
  clear hb6 HB5 HP5 HM5 HK5 hq
  cases NM with
  | false =>
    have HNN:Hid (E=5):=Lib.hid (by rw [HE2.out];rfl)
    go_wp2
    go_ret
    exact ⟨by rw [HNN.out];rfl,HB6.out.mono HB0.out,fun h=>by rw [HNN.out] at h;cases h⟩
  | true =>
  have k3:=(HB6.out.cell (World.block_lt_of_cell? W _ HK3.out)).trans HK3.out
  go_wp2_with fail
  clear k3
  refine (HCN.out _ (HLC.out.below HB6.out)).mono ?_
  rintro en w7 ⟨rfl,hb7⟩
  have HB7:=Lib.hid (HB6.out.trans (hb7.mono HB6.out.size))
  have HP7:=Lib.hid (HP6.out.below hb7)
  have HK7:=Lib.hid (HK6.out.keep hb7 HK6.out.lt)
  clear hb7 HB6 HP6 HK6
  by_cases hae:AE=0
  rotate_left
  ·have HNN:Hid (E=AE):=Lib.hid (by rw [HE2.out,if_neg (by simp),if_neg hae])
   have hae':(AE != 0)=true:=by simp [hae]
   have HAE:=Lib.hid hae
   clear hae
   go_wp2
   go_ret
   exact ⟨by rw [HNN.out];rfl,HB7.out.mono HB0.out,fun h=>absurd (HNN.out.symm.trans h) HAE.out⟩
  subst hae
  have HE3:Hid (E=CE):=Lib.hid (by rw [HE2.out,if_neg (by simp),if_pos rfl])
  obtain ⟨y0,y1,y2,y3,y4⟩:=Fa.key5 HK7.out
  simp only [Nat.zero_add] at y0 y1 y2 y3 y4
  have hb8:=(Below.refl w7.heap.size w7).alloc (Nat.le_refl _) (.cells (fCells ⟨⟨EN,a,b,PP,MK⟩,AV⟩) 76)
  have HF8:Hid (ElAt Fa.encF (w7.alloc (.cells (fCells ⟨⟨EN,a,b,PP,MK⟩,AV⟩) 76)) w7.heap.size 0 ⟨⟨EN,a,b,PP,MK⟩,AV⟩):=Lib.hid (zf Fa.encF w7 ⟨⟨EN,a,b,PP,MK⟩,AV⟩ 76)
  obtain ⟨W8,hW8⟩:∃ W8,w7.alloc (.cells (fCells ⟨⟨EN,a,b,PP,MK⟩,AV⟩) 76)=W8:=⟨_,rfl⟩
  rw [hW8] at hb8 HF8
  have HB8:=Lib.hid (HB7.out.trans (hb8.mono HB7.out.size))
  have HP8:=Lib.hid (HP7.out.below hb8)
  have HM8:=Lib.hid (HM.out.keep HB8.out)
  have HSZ7:Hid (w7.heap.size < W8.heap.size):=Lib.hid HF8.out.lt
  go_wp2_with fail
  clear y0 y1 y2 y3 y4 hW8 hb8
  obtain ⟨n0,n1,n2,n3,n4,n5,n6,n7,n8⟩:=HP8.out.nine
  obtain ⟨f0,f1,f2,f3,f4,f5⟩:=Fa.fact6 HF8.out
  simp only [Nat.zero_add] at f0 f1 f2 f3 f4 f5
  have s0:=fun q:Past W8=>za n0 q
  have s1:=fun q:Past W8=>za n1 q
  have s2:=fun q:Past W8=>za n2 q
  have s3:=fun q:Past W8=>za n3 q
  have s4:=fun q:Past W8=>za n4 q
  have s5:=fun q:Past W8=>za n5 q
  have s6:=fun q:Past W8=>za n6 q
  have s7:=fun q:Past W8=>za n7 q
  have s8:=fun q:Past W8=>za n8 q
  have t0:=fun q:Past W8=>za f0 q
  have t1:=fun q:Past W8=>za f1 q
  have t2:=fun q:Past W8=>za f2 q
  have t3:=fun q:Past W8=>za f3 q
  have t4:=fun q:Past W8=>za f4 q
  have t5:=fun q:Past W8=>za f5 q
  clear n0 n1 n2 n3 n4 n5 n6 n7 n8 f0 f1 f2 f3 f4 f5
  refine qX (.one [0,1,2,3,4] 5 (.last [6])) (by kernel_rfl) (by kernel_rfl) (fun d _ _ _ _ h=>by cases d <;> exact h) ?_
  obtain ⟨wx,hwx⟩:∃ wx,W8.drew=wx:=⟨_,rfl⟩
  rw [hwx]
  have HDX:Hid (Below W8.heap.size W8 wx):=Lib.hid (by rw [←hwx];exact ⟨rfl,rfl,rfl,Nat.le_refl _,fun _ _=>rfl⟩)
  clear hwx
  simp only [wpPlan,pick,nth]
  repeat (go_big_quiet_step (fail))
  refine wpQuiet_nil ?_
  clear s0 s1 s2 s3 s4 s5 s6 s7 s8 t0 t1 t2 t3 t4 t5
  intro K hK
  refine ze (by kernel_rfl) ?_
  go_big_op
  refine (HCK.out _ (HM8.out.keep HDX.out)).mono ?_
  rintro en w9 ⟨rfl,hb9⟩
  have HD9:=Lib.hid (HDX.out.trans (hb9.mono HDX.out.size))
  have HB9:=Lib.hid (HB8.out.trans (HD9.out.mono HB8.out.size))
  have HP9:=Lib.hid (HP8.out.below HD9.out)
  have HF9:=Lib.hid (HF8.out.keep HD9.out HSZ7.out)
  have HSZ9:Hid (w7.heap.size < w9.heap.size):=Lib.hid HF9.out.lt
  have HR7:Hid (R < w7.heap.size):=Lib.hid HP7.out.lt
  have HV7:Hid (∀ g,v.ownBlock=some g→g < w7.heap.size):=Lib.hid (fun g hg=>zeS HP7.out.facts hg)
  refine hK _ _ (zy HD9.out) ?_
  clear hK K hb9 HDX HD9 HB8 HP8 HF8 HM8 HSZ7 HP7 HK7
  repeat (go_big_quiet_step (fail))
  refine wpQuiet_nil ?_
  by_cases hce:CE=0
  rotate_left
  ·have HNN:Hid (E=CE):=HE3
   have hce':(CE != 0)=true:=by simp [hce]
   have HCE:=Lib.hid hce
   clear hce
   go_wp2
   go_ret
   exact ⟨by rw [HNN.out];rfl,HB9.out.mono HB0.out,fun h=>absurd (HNN.out.symm.trans h) HCE.out⟩
  subst hce
  have HNN:Hid (E=0):=HE3
  go_wp2_with fail
  obtain ⟨f0,f1,f2,f3,f4,f5⟩:=Fa.fact6 HF9.out
  simp only [Nat.zero_add] at f0 f1 f2 f3 f4 f5
  have hok:w7.heap.size≠R∧some w7.heap.size≠v.ownBlock:=⟨fun e0=>by have:=HR7.out;omega,fun e0=>by have:=HV7.out _ e0.symm;omega⟩
  have t0:=fun q:Leave (fun j=>j≠R∧some j≠v.ownBlock) w9=>zJ f0 hok q
  have t1:=fun q:Leave (fun j=>j≠R∧some j≠v.ownBlock) w9=>zJ f1 hok q
  have t2:=fun q:Leave (fun j=>j≠R∧some j≠v.ownBlock) w9=>zJ f2 hok q
  have t3:=fun q:Leave (fun j=>j≠R∧some j≠v.ownBlock) w9=>zJ f3 hok q
  have t4:=fun q:Leave (fun j=>j≠R∧some j≠v.ownBlock) w9=>zJ f4 hok q
  have t5:=fun q:Leave (fun j=>j≠R∧some j≠v.ownBlock) w9=>zJ f5 hok q
  clear f0 f1 f2 f3 f4 f5 hok
  refine Zv (S:=fun w'=>∃ q:Leave (fun j=>j≠R∧some j≠v.ownBlock) w9,w'=q.its) (.two [0,1,2,3,5] 4 (.one [] 6 (.one [] 7 (.one [8,9] 10 (.last [])))) 6 (.one [] 4 (.one [] 7 (.one [8,9] 10 (.last []))))) (by kernel_rfl) (by kernel_rfl) (fun d _ _ _ _ h=>by cases d <;> exact h) ⟨⟨w9.drew,fun _ _ _=>rfl⟩,rfl⟩ ?_
  obtain ⟨wz,hwz⟩:∃ wz,w9.drew=wz:=⟨_,rfl⟩
  rw [hwz]
  have HQ3:Hid (Below w9.heap.size w9 wz):=Lib.hid (by rw [←hwz];exact ⟨rfl,rfl,rfl,Nat.le_refl _,fun _ _=>rfl⟩)
  have HSZ:Hid (w9.heap.size≤wz.heap.size):=Lib.hid HQ3.out.size
  clear hwz
  have HPZ:=Lib.hid (HP9.out.below HQ3.out)
  have hba:=(HB9.out.mono HB0.out).trans (HQ3.out.mono (by have:=HB9.out.size;have:=HB0.out;omega))
  have HBA:=Lib.hid (hba.alloc (by have:=hba.size;have:=HB0.out;omega) (.cells #[.string EN,.string a,.string b,.string PP,.int .i64 MK,.int .i64 AV] 76))
  have HRA:=Lib.hid (HPZ.out.facts.alloc (.cells #[.string EN,.string a,.string b,.string PP,.int .i64 MK,.int .i64 AV] 76))
  have HEL:Hid (ElAt Fa.encF (wz.alloc (.cells #[.string EN,.string a,.string b,.string PP,.int .i64 MK,.int .i64 AV] 76)) wz.heap.size 0 ⟨⟨EN,a,b,PP,MK⟩,AV⟩):=Lib.hid (zf Fa.encF wz ⟨⟨EN,a,b,PP,MK⟩,AV⟩ 76)
  obtain ⟨_,_,_,z12⟩:=HPZ.out.four
  obtain ⟨_,_,_,x12⟩:=(HPZ.out.below ((Below.refl wz.heap.size wz).alloc (Nat.le_refl _) (.cells #[.string EN,.string a,.string b,.string PP,.int .i64 MK,.int .i64 AV] 76))).four
  clear hba
  simp only [wpPlan,pick,nth]
  repeat (go_big_quiet_step (fail))
  refine wpQuiet_nil ?_
  clear t0 t1 t2 t3 t4 t5
  refine ⟨?_,?_⟩
  ·intro K hK
   refine ze (by kernel_rfl) ?_
   go_big_op
   refine hK _ _ (zN fun j _ hjl=>HQ3.out.block j hjl) ?_
   clear hK K
   refine wpQuiet_nil ?_
   intro K hK
   refine ze (by kernel_rfl) ?_
   go_big_op
   refine hK _ _ (zN fun j _ hjl=>(heap_alloc_old _ _ (by have:=HSZ.out;omega)).trans (HQ3.out.block j hjl)) ?_
   clear hK K
   refine wpQuiet_nil ?_
   intro K hK
   refine ze (by kernel_rfl) ?_
   refine xC (E:=Fa.encF) (.tmp 65) (.tmp 67) 48 76 rfl infoFs B v S.facts ⟨⟨EN,a,b,PP,MK⟩,AV⟩ wz.heap.size rfl HRA.out rfl HEL.out (by have:=HBA.out.size;have:=HB0.out;omega) HFL.out ?_
   intro v2 wa hr2 hb2 hg2
   obtain ⟨c12,fz12,hput⟩:=HPZ.out.put _ _ hg2 hr2
   have HPUT:=Lib.hid hput
   have HBW:=Lib.hid (HBA.out.trans hb2)
   have HG2:=Lib.hid hg2
   refine hK _ _ (zN fun j hj hjl=>?_) ?_
   ·rw [hg2.block j (by rw [World.size_alloc];have:=HSZ.out;omega) (fun e0=>hj.2 e0)]
    exact ((heap_alloc_old _ _ (by have:=HSZ.out;omega)).trans (HQ3.out.block j hjl))
   clear hK K hb2 hg2 hput
   obtain ⟨p2,q2,m2,hv2⟩:=qn hr2
   clear hr2
   subst hv2
   simp only [Act.put,List.setIfInBounds_toArray,List.set_cons_zero,List.set_cons_succ]
   repeat (go_big_quiet_step (fail))
   refine wpQuiet_nil ?_
   intro K hK
   refine ze (by kernel_rfl) ?_
   go_big_op
   refine hK _ _ (zN fun j hj hjl=>?_) ?_
   ·rw [Below.heap_setCell _ _ _ _ (fun e0=>hj.1 e0),HG2.out.block j (by rw [World.size_alloc];have:=HSZ.out;omega) (fun e0=>hj.2 e0)]
    exact ((heap_alloc_old _ _ (by have:=HSZ.out;omega)).trans (HQ3.out.block j hjl))
   clear hK K
   refine wpQuiet_nil ?_
   have HBF:=Lib.hid (HBW.out.setCell (p:=⟨R,12,none⟩) HP.out.geR (.slice p2 m2 q2))
   clear c12 fz12
   go_wp2
   go_ret
   exact ⟨by rw [HNN.out];rfl,HBF.out,fun _=>⟨D,_,HPUT.out.mono (Nat.le_succ _)⟩⟩
  ·intro K hK
   refine ze (by kernel_rfl) ?_
   go_big_op
   refine hK _ _ (zN fun j _ hjl=>(heap_alloc_old _ _ (by have:=HSZ.out;omega)).trans (HQ3.out.block j hjl)) ?_
   clear hK K
   refine wpQuiet_nil ?_
   intro K hK
   refine ze (by kernel_rfl) ?_
   go_big_op
   refine hK _ _ (zN fun j _ hjl=>(heap_alloc_old _ _ (by have:=HSZ.out;omega)).trans (HQ3.out.block j hjl)) ?_
   clear hK K
   refine wpQuiet_nil ?_
   intro K hK
   refine ze (by kernel_rfl) ?_
   refine xC (E:=Fa.encF) (.tmp 65) (.tmp 67) 48 76 rfl infoFs B v S.facts ⟨⟨EN,a,b,PP,MK⟩,AV⟩ wz.heap.size rfl HRA.out rfl HEL.out (by have:=HBA.out.size;have:=HB0.out;omega) HFL.out ?_
   intro v2 wa hr2 hb2 hg2
   obtain ⟨c12,fz12,hput⟩:=HPZ.out.put _ _ hg2 hr2
   have HPUT:=Lib.hid hput
   have HBW:=Lib.hid (HBA.out.trans hb2)
   have HG2:=Lib.hid hg2
   refine hK _ _ (zN fun j hj hjl=>?_) ?_
   ·rw [hg2.block j (by rw [World.size_alloc];have:=HSZ.out;omega) (fun e0=>hj.2 e0)]
    exact ((heap_alloc_old _ _ (by have:=HSZ.out;omega)).trans (HQ3.out.block j hjl))
   clear hK K hb2 hg2 hput
   obtain ⟨p2,q2,m2,hv2⟩:=qn hr2
   clear hr2
   subst hv2
   simp only [Act.put,List.setIfInBounds_toArray,List.set_cons_zero,List.set_cons_succ]
   repeat (go_big_quiet_step (fail))
   refine wpQuiet_nil ?_
   intro K hK
   refine ze (by kernel_rfl) ?_
   go_big_op
   refine hK _ _ (zN fun j hj hjl=>?_) ?_
   ·rw [Below.heap_setCell _ _ _ _ (fun e0=>hj.1 e0),HG2.out.block j (by rw [World.size_alloc];have:=HSZ.out;omega) (fun e0=>hj.2 e0)]
    exact ((heap_alloc_old _ _ (by have:=HSZ.out;omega)).trans (HQ3.out.block j hjl))
   clear hK K
   refine wpQuiet_nil ?_
   have HBF:=Lib.hid (HBW.out.setCell (p:=⟨R,12,none⟩) HP.out.geR (.slice p2 m2 q2))
   clear c12 fz12
   go_wp2
   go_ret
   exact ⟨by rw [HNN.out];rfl,HBF.out,fun _=>⟨D,_,HPUT.out.mono (Nat.le_succ _)⟩⟩
end Go.Proofs.YtdhfpgjnjlcciaaGreatDoor.Pk
end
section
namespace Go.Proofs.YtdhfpgjnjlcciaaGreatDoor.Un
open Go.RowKit Go.Maps
def qQ (W:World) (B R m n:Nat) (D:DataW Unit) (M:Mast) (E:Int) (en:Ending) (W':World):Prop :=
 en=.returned (.int .i64 E)∧Below B W W'∧(E=0→∃ c f e l,RdAt W' B R m c f e l n D M)
set_option maxRecDepth 100000 in
set_option maxHeartbeats 8000000 in
theorem zbz (v:Value) (ws:List ByteArray) (W:World) (B R m n:Nat) (c f e l:Value) (D:DataW Unit) (M:Mast) (hv:StrsV W v ws) (hlaid:Laid W) (h:RdAt W B R m c f e l n D M) (hB:B≤W.heap.size) (hL:M.chart.length≤1000) :
 Calls Tryz.prog 86 #[.pointer (some ⟨R,0,none⟩),v] W (qQ W B R m n D { M with chart:=insL M.chart (parseA ws).1 } (if (parseA ws).2=0 then addE M.chart (parseA ws).1 else (parseA ws).2)):=by
 have HP:=Lib.hid (Go.Proofs.YtdhfpgjnjlcciaaGreatDoor.yc v ws W hv hlaid)
 have HL:=Lib.hid hL
 obtain ⟨p,cp,rfl,_⟩:=hv
 obtain ⟨A,hA⟩:∃ A,(parseA ws).1=A:=⟨_,rfl⟩
 obtain ⟨E1,hE1⟩:∃ E1,(parseA ws).2=E1:=⟨_,rfl⟩
 rw [hA,hE1] at HP ⊢
 have HR:=Lib.hid h
 have HB:=Lib.hid hB
 have hAV:addE M.chart A=0→addV M.chart A=insL M.chart A:=fun h0=>by unfold addV;rw [if_pos h0]
 have HAV:=Lib.hid hAV
 obtain ⟨E2,hE2⟩:∃ E2,addE M.chart A=E2:=⟨_,rfl⟩
 obtain ⟨MV,hMV⟩:∃ MV,addV M.chart A=MV:=⟨_,rfl⟩
 have HAD:=Lib.hid (fun (X:World) (hX:ChartV X c M.chart)=>QI c M.chart A X hX hL)
 rw [hE2] at HAV ⊢
 rw [hMV] at HAV
 simp only [hE2,hMV] at HAD
 obtain ⟨nw,hnw⟩:∃ nw,ws.length=nw:=⟨_,rfl⟩
 rw [hnw] at HP ⊢
 obtain ⟨E,hE⟩:∃ E,(if E1=0 then E2 else E1)=E:=⟨_,rfl⟩
 obtain ⟨MM,hMM⟩:∃ MM:Mast,({ M with chart:=insL M.chart A }:Mast)=MM:=⟨_,rfl⟩
 rw [hE,hMM]
 have HE:=Lib.hid hE
 have HMM:=Lib.hid hMM
 clear hA hE1 hE2 hMV h hB hL hlaid hAV hnw hE hMM
 go_enter Tryz.func86,Tryz.ntmps86
 go_wp2_with fail
 refine HP.out.mono ?_
 rintro en w1 ⟨rfl,hb1⟩
 have hb2:=hb1.alloc hb1.size (.cells #[.string A.code,.int .i64 A.cls,.bool A.cash,.bool A.both,.string A.fixed,.bool A.worn] 129)
 have HR2:=Lib.hid (HR.out.below hb2)
 have HX2:=Lib.hid (BoxA.new w1 A 129)
 have HB2:=Lib.hid (hb2.mono HB.out)
 have HS2:Hid (B≤(w1.alloc (.cells #[.string A.code,.int .i64 A.cls,.bool A.cash,.bool A.both,.string A.fixed,.bool A.worn] 129)).heap.size):=Lib.hid (Nat.le_trans HB.out hb2.size)
 clear hb1 hb2
 by_cases h0:E1=0
 ·subst h0
  obtain ⟨W2,hW2⟩:∃ W2,w1.alloc (.cells #[.string A.code,.int .i64 A.cls,.bool A.cash,.bool A.both,.string A.fixed,.bool A.worn] 129)=W2:=⟨_,rfl⟩
  rw [hW2] at HR2 HX2 HB2 HS2
  go_wp2_with fail
  clear hW2
  obtain ⟨k0,k1,k2,k3,k4,k5,k6,k7,k8⟩:=(show NineAt W2.drew R c f e l M from HR2.out.nine.kept ⟨rfl,rfl,rfl,Nat.le_refl _,fun _ _=>rfl⟩)
  obtain ⟨j0,j1,j2,j3,j4,j5⟩:=(show BoxA W2.drew w1.heap.size 129 A from HX2.out).facts
  have HCV:Hid (ChartV W2.drew c M.chart):=Lib.hid ((xN HR2.out.chart).keep ⟨rfl,rfl,rfl,Nat.le_refl _,fun _ _=>rfl⟩)
  clear k1 k2 k3 k4 k5 k6 k7 k8
  go_region_with (first
   | (go_at_call 124;refine (HAD.out W2.drew HCV.out).mono ?_;rintro en w3 ⟨v9,rfl,ho9,hb9⟩;obtain ⟨p9,c9,rfl,_,_⟩:=xN ho9;have HR3:=Lib.hid (RdAt.below (W:=W2.drew) (HR2.out.below (W':=W2.drew) ⟨rfl,rfl,rfl,Nat.le_refl _,fun _ _=>rfl⟩) hb9);have hz:=HR3.out.nine.c0;have hfz:=HR3.out.free 0)
   | fail)
  all_goals
   have HE2:Hid (E2=E):=Lib.hid (by rw [←HE.out,if_pos (by trivial)])
   have HFIN:Hid (E=0→RdAt (w3.setCell ⟨R,0,none⟩ (.slice p9 MV.length c9)) B R m (.slice p9 MV.length c9) f e l n D MM):=Lib.hid (fun h0=>by
    have hmv:=HAV.out (by rw [HE2.out];exact h0)
    rw [←HMM.out]
    refine jP 0 _ HR3.out.box rfl ?_ HR3.out.flows HR3.out.ents HR3.out.lines HR3.out.map HR3.out.geR HR3.out.geM
    show w3.ownsRow B _ 6 _ (insL M.chart A).length (flatA (insL M.chart A))
    rw [←hmv]
    exact zw ho9 HS2.out)
   have HBF:Hid (Below B W (w3.setCell ⟨R,0,none⟩ (.slice p9 MV.length c9))):=Lib.hid (jw (HB2.out.trans ((yU hb9).mono HS2.out)) HR3.out.geR 0 _)
   clear ho9 hb9 hz hfz
   go_wp2
   go_ret
   exact ⟨by rw [←HE2.out];rfl,HBF.out,fun h0=>⟨_,_,_,_,HFIN.out h0⟩⟩
 ·have HE2:Hid (E1=E∧E≠0):=Lib.hid (by have:=HE.out;rw [if_neg h0] at this;exact ⟨this,by rw [←this];exact h0⟩)
  go_wp2
  go_ret
  exact ⟨by rw [←HE2.out.1];rfl,HB2.out,fun h1=>absurd h1 HE2.out.2⟩
end Go.Proofs.YtdhfpgjnjlcciaaGreatDoor.Un
end
