/- PkRead3 PkParse PkAlive Open ElsOpen -/
import Derived.Deep.Fields
import Derived.Deep.SlicePairs
import Derived.Deep.Slices
import Derived.Deep.Strs
import Derived.LaidMore
import Derived.OpenShut
import Derived.ProofKit
import Derived.Stop.Joined
import Derived.Stop.LaidErr
import Derived.Test.YtdhfpgjnjlcciaaGreatDoorQ26
section
namespace Go.Proofs.YtdhfpgjnjlcciaaGreatDoor.Pk
open Go.RowKit Go.Maps Go.Proofs.YtdhfpgjnjlcciaaGreatDoor.Un
theorem zhn (s:ByteArray):(s.toList==[112,97,99,107,97,103,101])=decide (s=zA):=qL s zA _ rfl
theorem zej (s:ByteArray):(s.toList==[106,111,117,114,110,97,108])=decide (s=zL):=qL s zL _ rfl
theorem qFact (s:ByteArray):(s.toList==[102,97,99,116])=decide (s=tFact):=qL s tFact _ rfl
def formR (R:Nat) (x:ByteArray):Value :=
 if x=zA then .tuple #[.int .i64 2,.func (.func 113) #[.pointer (some ⟨R,0,none⟩)] #[]]
 else if x=zL then .tuple #[.int .i64 2,.func (.func 114) #[.pointer (some ⟨R,0,none⟩)] #[]]
 else if x=tFact then .tuple #[.int .i64 5,.func (.func 115) #[.pointer (some ⟨R,0,none⟩)] #[]]
 else .tuple #[.int .i64 0,.nilFunc]
set_option maxRecDepth 100000 in
set_option maxHeartbeats 4000000 in
theorem V8 (R:Nat) (x:ByteArray) (w:World):Calls Tryz.prog 80 #[.pointer (some ⟨R,0,none⟩),.string x] w fun en w'=>en=.returned (formR R x)∧w=w':=by
 have q1:=zhn x
 have q2:=zej x
 have q3:=qFact x
 have hmf:∀ (fn:Fn) (first cap:Array Value) (w:World),(Instr.makeFunc fn first cap).run Tryz.prog w=.ok (.func fn first cap) w:=fun _ _ _ _=>rfl
 unfold formR
 by_cases h1:x=zA
 ·rw [if_pos h1]
  rw [decide_eq_true h1] at q1
  clear q2 q3 h1
  go_enter Tryz.func80,Tryz.ntmps80
  go_wp2
  go_ret2
  exact ⟨rfl,rfl⟩
 rw [if_neg h1]
 rw [decide_eq_false h1] at q1
 by_cases h2:x=zL
 ·rw [if_pos h2]
  rw [decide_eq_true h2] at q2
  clear q3 h1 h2
  go_enter Tryz.func80,Tryz.ntmps80
  go_wp2
  go_ret2
  exact ⟨rfl,rfl⟩
 rw [if_neg h2]
 rw [decide_eq_false h2] at q2
 by_cases h3:x=tFact
 ·rw [if_pos h3]
  rw [decide_eq_true h3] at q3
  clear h1 h2 h3
  go_enter Tryz.func80,Tryz.ntmps80
  go_wp2
  go_ret2
  exact ⟨rfl,rfl⟩
 rw [if_neg h3]
 rw [decide_eq_false h3] at q3
 clear h1 h2 h3
 go_enter Tryz.func80,Tryz.ntmps80
 go_wp2
 go_ret2
 exact ⟨rfl,rfl⟩
set_option maxRecDepth 100000 in
set_option maxHeartbeats 4000000 in
theorem Z7 (vw:Value) (ws:List ByteArray) (W:World) (R:Nat) (k:Int) (fv:Value) (hw:StrsV W vw ws) (h0:0 < ws.length) (hf:formR R (wd ws 0)=.tuple #[.int .i64 k,fv]) (hk:(ws.length:Int)≠k) :
 Calls Tryz.prog 52 #[.pointer (some ⟨R,0,none⟩),vw] W fun en w'=>en=.returned (.int .i64 5)∧W=w':=by
 obtain ⟨x0,hx0⟩:∃ x,ws[0]?=some x:=⟨_,List.getElem?_eq_getElem h0⟩
 have hwd:wd ws 0=x0:=jd hx0
 rw [hwd] at hf
 have HFO:=Lib.hid (fun W=>V8 R x0 W)
 simp only [hf] at HFO
 obtain ⟨p,cp,rfl,_,_,hc⟩:=hw
 obtain ⟨g,o,rfl,k0⟩:=hc 0 x0 hx0
 rw [Nat.add_zero] at k0
 obtain ⟨nw,hnw⟩:∃ nw,ws.length=nw:=⟨_,rfl⟩
 rw [hnw] at hk h0 ⊢
 have hk':((nw:Int) != k)=true:=by simp [hk]
 clear hc hx0 hwd hf hnw hk
 go_enter Tryz.func52,Tryz.ntmps52
 go_wp2_with fail
 clear k0
 refine (HFO.out _).mono ?_
 rintro en w1 ⟨rfl,rfl⟩
 go_wp2
 go_ret
 exact ⟨rfl,rfl⟩
set_option maxRecDepth 100000 in
set_option maxHeartbeats 8000000 in
theorem JT (vw:Value) (ws:List ByteArray) (W:World) (R:Nat) (k:Int) (fn:Nat) (T:Ending→World→Prop) (hw:StrsV W vw ws) (h0:0 < ws.length) (hf:formR R (wd ws 0)=.tuple #[.int .i64 k,.func (.func fn) #[.pointer (some ⟨R,0,none⟩)] #[]]) (hk:(ws.length:Int)=k)
 (hfn:fn=113∨fn=114∨fn=115)
 (hT:∀ u,StrsV W u (ws.drop 1)→Calls Tryz.prog fn #[.pointer (some ⟨R,0,none⟩),u] W fun en w'=>∃ E:Int,en=.returned (.int .i64 E)∧T (.returned (.int .i64 E)) w') :
 Calls Tryz.prog 52 #[.pointer (some ⟨R,0,none⟩),vw] W T:=by
 obtain ⟨x0,hx0⟩:∃ x,ws[0]?=some x:=⟨_,List.getElem?_eq_getElem h0⟩
 have hwd:wd ws 0=x0:=jd hx0
 rw [hwd] at hf
 have HFO:=Lib.hid (fun W=>V8 R x0 W)
 simp only [hf] at HFO
 obtain ⟨p,cp,rfl,hcap,hmx,hc⟩:=hw
 obtain ⟨g,o,rfl,k0⟩:=hc 0 x0 hx0
 rw [Nat.add_zero] at k0
 obtain ⟨v1,hv1,hs1⟩:=Jq XR Kn (⟨_,_,rfl,hcap,hmx,hc⟩:StrsV W (.slice (some ⟨g,o,none⟩) ws.length cp) ws) (k:=1) (by omega)
 have HT:=Lib.hid (hT v1 hs1)
 obtain ⟨p1,c1,rfl,_,_,_⟩:=hs1
 obtain ⟨nw,hnw⟩:∃ nw,ws.length=nw:=⟨_,rfl⟩
 obtain ⟨n1,hn1⟩:∃ n1,(ws.drop 1).length=n1:=⟨_,rfl⟩
 rw [hn1] at HT hv1
 rw [hnw] at hk h0 hv1 ⊢
 have hk':((nw:Int) != k)=false:=by simp [hk]
 have HVE:=Lib.hid hv1
 have HFN:=Lib.hid hfn
 clear hc hx0 hwd hf hnw hk hT hn1 hv1 hcap hmx HFN
 rcases hfn with rfl | rfl | rfl
 all_goals
  go_enter Tryz.func52,Tryz.ntmps52
  go_wp2_with fail
  clear k0
  refine (HFO.out _).mono ?_
  rintro en w1 ⟨rfl,rfl⟩
  have hv1:=HVE.out
  simp only [Int.natCast_one] at hv1
  go_wp2_with fail
  clear hv1
  refine HT.out.mono ?_
  rintro en w2 ⟨E,rfl,ht⟩
  have HTT:=Lib.hid ht
  clear ht
  go_wp2
  exact HTT.out
theorem Xy (R:Nat):formR R zA=.tuple #[.int .i64 2,.func (.func 113) #[.pointer (some ⟨R,0,none⟩)] #[]]:=by unfold formR;rw [if_pos rfl]
theorem VP (R:Nat):formR R zL=.tuple #[.int .i64 2,.func (.func 114) #[.pointer (some ⟨R,0,none⟩)] #[]]:=by unfold formR;rw [if_neg tP_J.symm,if_pos rfl]
theorem KM (R:Nat):formR R tFact=.tuple #[.int .i64 5,.func (.func 115) #[.pointer (some ⟨R,0,none⟩)] #[]]:=by unfold formR;rw [if_neg tP_F.symm,if_neg tJ_F.symm,if_pos rfl]
theorem zfU (R:Nat) {x:ByteArray} (h1:x≠zA) (h2:x≠zL) (h3:x≠tFact):formR R x=.tuple #[.int .i64 0,.nilFunc]:=by unfold formR;rw [if_neg h1,if_neg h2,if_neg h3]
theorem JF {W:World} {B R m n:Nat} {c f e l:Value} {M:Mast} {S':St} {E:Int} {en:Ending} {w':World} (h:LineP W B R m n c f e l M S' E en w'):∃ E':Int,en=.returned (.int .i64 E')∧LineP W B R m n c f e l M S' E (.returned (.int .i64 E')) w':=by
 have h1:=h.1
 subst h1
 exact ⟨E,rfl,h⟩
theorem Zb {W:World} {B R m n:Nat} {c f e l:Value} {M:Mast} {S':St} {E:Int} {en:Ending} {w':World} (hE:E=5) (h:en=.returned (.int .i64 5)∧W=w'):LineP W B R m n c f e l M S' E en w':=by
 obtain ⟨rfl,rfl⟩:=h
 subst hE
 exact ⟨rfl,Below.refl _ _,fun h=>by cases h⟩
theorem zbo (vw:Value) (ws:List ByteArray) (W:World) (B R m:Nat) (c f e l:Value) (M:Mast) (n:Nat) (D:DataW Unit) (S:St) (v:Value) (hw:StrsV W vw ws) (h0:0 < ws.length) (hsz:∀ y∈ws,y.size≤1000000) (hB:B≤W.heap.size) (hn:n < maxLen) (hm:MastIn W c f e l M) (hsn:Sane M) (hlc:LaidC W) (hfl:S.facts.length≤1000000) (h:PkAt W B R m c f e l M n D S v) :
 Calls Tryz.prog 52 #[.pointer (some ⟨R,0,none⟩),vw] W (LineP W B R m n c f e l M (lineV S ws) (lineE M S ws)):=by
 by_cases h1:wd ws 0=zA
 ·by_cases hl:ws.length=2
  ·match ws,hl,h1,hw,h0 with
   | [t,x],_,h1,hw,h0 =>
     obtain rfl:t=zA:=h1
     have eV:lineV S [zA,x]=⟨x,0,S.had++[x],S.facts⟩:=by unfold lineV;rw [if_pos (show wd [zA,x] 0=zA from rfl)];rfl
     have eE:lineE M S [zA,x]=if begE M x=0 then (if hadB S.had x=true then 7 else 0) else begE M x:=by unfold lineE;rw [if_pos (show wd [zA,x] 0=zA from rfl),if_pos (show [zA,x].length=2 from rfl)];rfl
     rw [eV,eE]
     exact JT vw _ W R 2 _ _ hw h0 (Xy R) rfl (.inl rfl) fun u hu=>(zif u x W B R m c f e l M n D S v hu hB hn hm h).mono fun en w'=>JF
  ·exact (Z7 vw ws W R 2 _ hw h0 (by rw [h1];exact Xy R) (by omega)).mono fun en w'=>Zb (by unfold lineE;rw [if_pos h1,if_neg hl])
 by_cases h2:wd ws 0=zL
 ·by_cases hl:ws.length=2
  ·match ws,hl,h1,h2,hw,h0 with
   | [t,x],_,h1,h2,hw,h0 =>
     obtain rfl:t=zL:=h2
     have eV:lineV S [zL,x]=⟨x,1,S.had,S.facts⟩:=by unfold lineV;rw [if_neg (show wd [zL,x] 0≠zA from tP_J.symm),if_pos (show wd [zL,x] 0=zL from rfl)];rfl
     have eE:lineE M S [zL,x]=begE M x:=by unfold lineE;rw [if_neg (show wd [zL,x] 0≠zA from tP_J.symm),if_pos (show wd [zL,x] 0=zL from rfl),if_pos (show [zL,x].length=2 from rfl)];rfl
     rw [eV,eE]
     exact JT vw _ W R 2 _ _ hw h0 (VP R) rfl (.inr (.inl rfl)) fun u hu=>(zgt u x W B R m c f e l M n D S v hu hB hm h).mono fun en w'=>JF
  ·exact (Z7 vw ws W R 2 _ hw h0 (by rw [h2];exact VP R) (by omega)).mono fun en w'=>Zb (by unfold lineE;rw [if_neg h1,if_pos h2,if_neg hl])
 by_cases h3:wd ws 0=tFact
 ·by_cases hl:ws.length=5
  ·match ws,hl,h1,h2,h3,hw,h0,hsz with
   | [t,a,b,p,am],_,h1,h2,h3,hw,h0,hsz =>
     obtain rfl:t=tFact:=h3
     have eV:lineV S [tFact,a,b,p,am]=⟨S.ent,S.mrk,S.had,S.facts++[factV S [tFact,a,b,p,am]]⟩:=by unfold lineV;rw [if_neg (show wd [tFact,a,b,p,am] 0≠zA from tP_F.symm),if_neg (show wd [tFact,a,b,p,am] 0≠zL from tJ_F.symm)]
     have eE:lineE M S [tFact,a,b,p,am]=factE M S [tFact,a,b,p,am]:=by unfold lineE;rw [if_neg (show wd [tFact,a,b,p,am] 0≠zA from tP_F.symm),if_neg (show wd [tFact,a,b,p,am] 0≠zL from tJ_F.symm),if_pos (show wd [tFact,a,b,p,am] 0=tFact from rfl),if_pos (show [tFact,a,b,p,am].length=5 from rfl)]
     rw [eV,eE]
     exact JT vw _ W R 5 _ _ hw h0 (KM R) rfl (.inr (.inr rfl)) fun u hu=>(zcN u a b p am W B R m c f e l M n D S v hu hB hm hsn hlc (hsz am (by simp)) hfl h).mono fun en w'=>JF
  ·exact (Z7 vw ws W R 5 _ hw h0 (by rw [h3];exact KM R) (by omega)).mono fun en w'=>Zb (by unfold lineE;rw [if_neg h1,if_neg h2,if_pos h3,if_neg hl])
 ·exact (Z7 vw ws W R 0 _ hw h0 (zfU R h1 h2 h3) (by omega)).mono fun en w'=>Zb (by unfold lineE;rw [if_neg h1,if_neg h2,if_neg h3])
end Go.Proofs.YtdhfpgjnjlcciaaGreatDoor.Pk
end
section
namespace Go.Proofs.YtdhfpgjnjlcciaaGreatDoor.Pk
open Go.RowKit Go.Maps Go.Proofs.YtdhfpgjnjlcciaaGreatDoor.Un
structure PPAt (W0 W:World) (R m i:Nat) (l:List (List ByteArray)) (c f e k:Value) (M:Mast) (D:DataW Unit) (S:St) (v:Value):Prop where
 rd:PkAt W W0.heap.size R m c f e k M i D S v
 bel:Below W0.heap.size W0 W
 run:runP M st0 l=runP M S (l.drop i)
 few:S.facts.length≤i
theorem zeQ (W0:World) (l:List (List ByteArray)) (c f e k:Value) (M:Mast) :
 PPAt W0 ((W0.alloc (.map #[] 0)).alloc (.cells (vQ c f e k M W0.heap.size st0 (.slice none 0 0)) 122)) (W0.heap.size+1) W0.heap.size 0 l c f e k M (.map []) st0 (.slice none 0 0) where
 rd:=⟨by have:=heap_alloc_new (W0.alloc (.map #[] 0)) (.cells (vQ c f e k M W0.heap.size st0 (.slice none 0 0)) 122);rw [World.size_alloc] at this;exact this,World.ownsRow_nil _ _ _ _,(World.ownsMap_made W0 _ _ _).alloc _,HadD.zero,Nat.le_succ _,Nat.le_refl _⟩
 bel:=((Below.refl _ W0).alloc (Nat.le_refl _) _).alloc (by simp) _
 run:=rfl
 few:=Nat.le_refl _
theorem zdT {M:Mast} {S:St} {ws:List ByteArray} (h:lineE M S ws=0):(lineV S ws).facts.length≤S.facts.length+1:=by
 rcases Yn h with ⟨_,_,_,_,e⟩ | ⟨_,_,_,e⟩ | ⟨_,_,_,e⟩ <;> rw [e]
 ·exact Nat.le_succ _
 ·exact Nat.le_succ _
 ·dsimp only;rw [List.length_append];exact Nat.le_refl _
theorem KI:∀ (ws:List ByteArray) (y:ByteArray),y∈ws→y.size≤(lineL ws).length
 | [],_,h=>by cases h
 | [x],y,h=>by rw [List.mem_singleton.1 h,QS,zv];exact Nat.le_refl _
 | x::z::r,y,h=>by
   rw [QW,List.length_append,List.length_append,zv]
   rcases List.mem_cons.1 h with rfl | h
   ·omega
   ·have:=KI (z::r) y h
    omega
theorem zaW {s:ByteArray} {ws:List ByteArray} (h:ws∈wordsT s):∀ y∈ws,y.size≤s.size+1:=fun y hy=>by
 have h1:=KI ws y hy
 have h2:=KH s
 have h3:∀ (l:List (List ByteArray)),ws∈l→szW ws≤szL l:=by
  intro l hl
  induction l with
  | nil=>cases hl
  | cons a r ih =>
    have e:szL (a::r)=szW a+szL r:=by simp [szL]
    rw [e]
    rcases List.mem_cons.1 hl with rfl | hl
    ·omega
    ·have:=ih hl;omega
 have h4:=h3 _ h
 unfold szW at h4
 omega
set_option maxRecDepth 100000 in
set_option maxHeartbeats 16000000 in
theorem vB (c f e l:Value) (M:Mast) (s:ByteArray) (w:World) (hm:MastIn w c f e l M) (hsn:Sane M) (hlc:LaidC w) (hs:s.size≤9000) :
 Calls Tryz.prog 24 #[aggM c f e l M,.string s] w (Fa.yh w (parseP M s)):=by
 obtain ⟨pc,cc,pf,cf,pe,ce,pl,cl,rfl,rfl,rfl,rfl⟩:=shapes hm
 have hb0:=(Below.refl w.heap.size w).alloc (Nat.le_refl _) (.cells (cellsM (.slice pc M.chart.length cc) (.slice pf M.flows.length cf) (.slice pe M.ents.length ce) (.slice pl M.lines.length cl) M) 33)
 have hn0:=zM w (.slice pc M.chart.length cc) (.slice pf M.flows.length cf) (.slice pe M.ents.length ce) (.slice pl M.lines.length cl) M 33
 obtain ⟨W1,hW1⟩:∃ W1,w.alloc (.cells (cellsM (.slice pc M.chart.length cc) (.slice pf M.flows.length cf) (.slice pe M.ents.length ce) (.slice pl M.lines.length cl) M) 33)=W1:=⟨_,rfl⟩
 rw [hW1] at hb0 hn0
 have HB1:=Lib.hid hb0
 have HN1:=Lib.hid hn0
 have HM1:=Lib.hid (hm.keep hb0)
 have HL1:=Lib.hid (hlc.below hb0)
 have HSN:=Lib.hid hsn
 have HLN:=Lib.hid (zay s W1 (by omega))
 have HWP:=Lib.hid (QG s)
 have HWS:=Lib.hid (fun ws (h:ws∈wordsT s)=>zaW h)
 have HWI:=Lib.hid (J4 M s)
 have hpm:parseP M s=if linE s.data.toList=0 then endP (runP M st0 (wordsT s)) else ([],linE s.data.toList):=rfl
 obtain ⟨L,hL⟩:∃ L,asB (linV s.data.toList)=L:=⟨_,rfl⟩
 have hWT:wordsT s=L.map (·.2):=by unfold wordsT;rw [hL]
 rw [hWT] at hpm HWP HWS HWI
 have hLL:L.length≤30001:=by
  rw [←hL,vH]
  unfold linV
  split
  ·simp
  ·split
   ·unfold linesL
    have h1:=ZU (enumL 1 (zn [] s.data.toList))
    rw [xh] at h1
    have h2:=vt [] s.data.toList
    rw [zv] at h2
    omega
   ·simp
 obtain ⟨e0,he0⟩:∃ e0,linE s.data.toList=e0:=⟨_,rfl⟩
 rw [he0] at hpm HLN HWI
 rw [hL] at HLN
 obtain ⟨P,hP⟩:∃ P,parseP M s=P:=⟨_,rfl⟩
 rw [hP] at HWI ⊢
 have HPR:Hid (P=if e0=0 then endP (runP M st0 (L.map (·.2))) else ([],e0)):=Lib.hid (by rw [←hpm,hP])
 have HS:=Lib.hid hs
 clear hpm hL hWT he0 hP hb0 hn0 hm hsn hlc hs
 go_enter Tryz.func24,Tryz.ntmps24
 go_wp2_with fail
 clear hW1
 refine HLN.out.mono ?_
 rintro en w2 ⟨v2,rfl,hlv,hb2⟩
 have HB2:=Lib.hid (HB1.out.trans (hb2.mono HB1.out.size))
 have HN2:=Lib.hid (HN1.out.kept hb2)
 have HM2:=Lib.hid (HM1.out.keep hb2)
 have HL2:=Lib.hid (HL1.out.below hb2)
 clear hb2 HB1 HN1 HM1 HL1
 obtain ⟨p,cp,rfl,hmx,hc⟩:=hlv
 have HC:=Lib.hid hc
 clear hc
 by_cases h0:e0=0
 rotate_left
 ·have HPF:Hid (P=([],e0)):=Lib.hid (by rw [HPR.out,if_neg h0])
  have h0':(e0 != 0)=true:=by simp [h0]
  clear h0
  go_wp2
  go_ret2
  exact ⟨_,by rw [HPF.out];rfl,by rw [HPF.out];exact ElsV.nil _,HB2.out⟩
 subst h0
 have HPR2:Hid (P=endP (runP M st0 (L.map (·.2)))):=Lib.hid (by rw [HPR.out,if_pos rfl])
 clear HPR
 obtain ⟨n,hn⟩:∃ n,L.length=n:=⟨_,rfl⟩
 rw [hn] at hLL ⊢
 have HN:=Lib.hid hn
 have HST:=Lib.hid (zeQ w2 (L.map (·.2)) (.slice pc M.chart.length cc) (.slice pf M.flows.length cf) (.slice pe M.ents.length ce) (.slice pl M.lines.length cl) M)
 have hmm:=@run_makeMap Tryz.prog
 obtain ⟨k0,k1,k2,k3,k4,k5,k6,k7,k8⟩:=HN2.out
 clear hn hmx
 go_wp2
 clear hmm k0 k1 k2 k3 k4 k5 k6 k7 k8
 go_loopw [25] (fun s25 wr=>∃ i:Nat,i≤n∧s25=.int .i64 (i:Int)∧Hid (∃ D S v,PPAt w2 wr (w2.heap.size+1) w2.heap.size i (L.map (·.2)) (.slice pc M.chart.length cc) (.slice pf M.flows.length cf) (.slice pe M.ents.length ce) (.slice pl M.lines.length cl) M D S v)) (fun s25 _=>n - (intOf s25).toNat)
 case atStart=>exact ⟨0,Nat.zero_le _,rfl,Lib.hid ⟨_,_,_,HST.out⟩⟩
 case round =>
  obtain ⟨i,hi,rfl,HPA⟩:=hrel
  obtain ⟨D,S,v,hpa⟩:=HPA.out
  have HP:=Lib.hid hpa
  clear hpa HPA
  by_cases hlt:i < n
  ·obtain ⟨⟨ln,ws⟩,hx⟩:∃ x,L[i]?=some x:=⟨_,List.getElem?_eq_getElem (by rw [HN.out];exact hlt)⟩
   obtain ⟨b,o,u,rfl,d0,d1,hu⟩:=HC.out i _ hx
   dsimp only at d0 d1 hu
   have hwx:(L.map (·.2))[i]?=some ws:=by rw [List.getElem?_map,hx];rfl
   have HWX:=Lib.hid hwx
   have HW0:=Lib.hid (HWP.out ws (List.mem_of_getElem? hwx))
   have HWZ:=Lib.hid (HWS.out ws (List.mem_of_getElem? hwx))
   have HU:=Lib.hid hu
   obtain ⟨pu,cu,rfl,_⟩:=hu
   have e0:=(HP.out.bel.cell (World.block_lt_of_cell? w2 _ d0)).trans d0
   have e1:=(HP.out.bel.cell (World.block_lt_of_cell? w2 _ d1)).trans d1
   obtain ⟨nw,hnw⟩:∃ nw,ws.length=nw:=⟨_,rfl⟩
   rw [hnw] at e1 HU
   have hbx:=(Below.refl wr.heap.size wr).alloc (Nat.le_refl _) (.cells #[.int .i64 ln,.slice pu nw cu] 124)
   have HR1:=Lib.hid (HP.out.rd.below hbx)
   have HB1:=Lib.hid (HP.out.bel.trans (hbx.mono HP.out.bel.size))
   have HRC:=Lib.hid (zbo (.slice pu nw cu) ws _ _ _ _ _ _ _ _ M i D S v (HU.out.keep HB1.out) HW0.out (fun y hy=>by have:=HWZ.out y hy;have:=HS.out;omega) HB1.out.size (by unfold maxLen;omega) (HM2.out.keep HB1.out) HSN.out (HL2.out.below HB1.out) (by have:=HP.out.few;omega) HR1.out)
   clear hx hwx d0 d1 hnw hbx
   obtain ⟨E,hE⟩:∃ E,lineE M S ws=E:=⟨_,rfl⟩
   rw [hE] at HRC
   have HE:=Lib.hid hE
   clear hE
   go_wp2_with fail
   clear e0 e1
   refine HRC.out.mono ?_
   rintro en w3 ⟨rfl,hb3,hrd3⟩
   have HB3:=Lib.hid (HB1.out.trans hb3)
   have HRD3:=Lib.hid hrd3
   have HDR:Hid ((L.map (·.2)).drop i=ws::(L.map (·.2)).drop (i+1)):=Lib.hid (by
    have hlt':=(List.getElem?_eq_some_iff.1 HWX.out).1
    rw [List.drop_eq_getElem_cons hlt',(List.getElem?_eq_some_iff.1 HWX.out).2])
   clear hb3 hrd3
   by_cases hE0:E=0
   ·subst hE0
    have HNX:Hid (∃ D S v,PPAt w2 w3 (w2.heap.size+1) w2.heap.size (i+1) (L.map (·.2)) (.slice pc M.chart.length cc) (.slice pf M.flows.length cf) (.slice pe M.ents.length ce) (.slice pl M.lines.length cl) M D S v):=Lib.hid (by
     obtain ⟨D',v',hr⟩:=HRD3.out rfl
     exact ⟨D',_,v',hr,HB3.out,by rw [HP.out.run,HDR.out,yP _ HE.out],by have:=zdT HE.out;have:=HP.out.few;omega⟩)
    go_wp2
    go_roundw
    case rel=>exact ⟨i+1,by omega,by go_num,HNX⟩
    case measure=>simp [intOf];omega
   ·have HPF:Hid (P=([],E)):=Lib.hid (by rw [HPR2.out,HP.out.run,HDR.out,Qh _ (by rw [HE.out];exact hE0),HE.out,XZ _ hE0])
    have hE0':(E != 0)=true:=by simp [hE0]
    have HBF:=Lib.hid (HB2.out.trans (HB3.out.mono HB2.out.size))
    clear hE0
    go_wp2
    go_ret2
    exact ⟨_,by rw [HPF.out];rfl,by rw [HPF.out];exact ElsV.nil _,HBF.out⟩
  ·have HRN:Hid (runP M st0 (L.map (·.2))=(S,0)):=Lib.hid (by
    rw [HP.out.run,List.drop_eq_nil_of_le (by rw [List.length_map,HN.out];omega)];rfl)
   have HPF:Hid (P=Fa.ofL S.facts∧S.facts.length≤1000∧∀ x∈S.facts,In64 x.amt):=Lib.hid (by
    have h1:=HPR2.out
    rw [HRN.out,Qv] at h1
    rcases HWI.out with ⟨T,_,h3,h4,h5,_⟩ | ⟨_,_,h3 | h3⟩
    ·rw [HRN.out] at h3
     obtain rfl:=(Prod.mk.inj h3).1
     exact ⟨h1,by have:=HS.out;omega,fun x hx=>(h4.ok x hx).1⟩
    ·rw [HRN.out] at h3;exact absurd rfl h3
    ·exact absurd rfl h3)
   have HOF:=Lib.hid (Fa.jX v S.facts wr (zq HP.out.rd.facts) HPF.out.2.2 HPF.out.2.1)
   obtain ⟨_,_,_,c12⟩:=HP.out.rd.four
   obtain ⟨pv,kv,mv,hvv⟩:=qn HP.out.rd.facts
   subst hvv
   rw [←HPF.out.1] at HOF
   have HBW:=Lib.hid (HB2.out.trans (HP.out.bel.mono HB2.out.size))
   go_wp2_with fail
   clear c12
   refine HOF.out.mono ?_
   rintro en w4 ⟨u4,rfl,hf4,hb4⟩
   have HF4:=Lib.hid hf4
   have HB4:=Lib.hid (HBW.out.trans (hb4.mono HBW.out.size))
   clear hf4 hb4
   go_wp2
   go_ret2
   exact ⟨_,rfl,HF4.out,HB4.out⟩
end Go.Proofs.YtdhfpgjnjlcciaaGreatDoor.Pk
end
section
namespace Go.Proofs.YtdhfpgjnjlcciaaGreatDoor.Pk
open Go.RowKit Go.Maps Go.Proofs.YtdhfpgjnjlcciaaGreatDoor.Un
def LaidP (w:World):Prop:=Laid w∧Fl.Laid w∧LaidC w
theorem LaidP.keep {w w':World} (h:LaidP w) (hb:Below w.heap.size w w'):LaidP w':=⟨h.1.below hb (Nat.le_refl _),h.2.1.below hb (Nat.le_refl _),h.2.2.below hb⟩
def zbe (b:Bool) (w:World) (en:Ending) (w':World):Prop:=∃ M c f e l,SmallM b M∧en=.returned (.tuple #[aggM c f e l M,.int .i64 0])∧MastIn w' c f e l M∧Below w.heap.size w w'
theorem zbc (b:Bool) (s:ByteArray) (hs:s=mkB (textW (smallP b))) (w:World) (hl:LaidP w):Calls Tryz.prog 28 #[.string s] w (zbe b w):=by
 subst hs
 obtain ⟨M,hM,hS⟩:=ze9 b
 have:=Un.yc (mkB (textW (smallP b))) w (by rw [Jp,VX];have:=K8 b;omega) hl.1 hl.2.1
 rw [hM] at this
 refine this.mono ?_
 rintro en w' ⟨v,rfl,⟨c,f,e,l,rfl,hm⟩,hb⟩
 exact ⟨M,c,f,e,l,hS,rfl,hm,hb⟩
end Go.Proofs.YtdhfpgjnjlcciaaGreatDoor.Pk
end
section
namespace Go.Proofs.YtdhfpgjnjlcciaaGreatDoor
open Go.ChangeShapes Go.WideShapes Go.ChangeAt Go.RowKit
theorem laidOut:laidOutB Tryz.prog=true:=by kernel_rfl
end Go.Proofs.YtdhfpgjnjlcciaaGreatDoor
end
section
namespace Go.Proofs.YtdhfpgjnjlcciaaGreatDoor
open Go.ChangeShapes Go.WideShapes Go.ChangeAt Go.RowKit Go.Deep
section
variable {H:Type} {enc:TypeId × Value→H} {P:Program} {W:World} {base:Nat} {sp:Nat→Bool} {held:Bool}
end
theorem XG {H:Type} {enc:TypeId × Value→H} {P:Program} {w:World} {base:Nat} {sp:Nat→Bool} {held:Bool} {fuel:Nat} {t e:TypeId} {n:Nat} {cs:List Value} {zs:List (List UInt8)} {p:List MemPlace}
 (ht:P.underlying t=some (.array n e)) (he:P.underlying e=some .string) (hce:P.cellsOf e=1) (hct:P.cellsOf t=n)
 (h:DataW.trod enc P w base sp held fuel t cs=some (.agg (zs.map fun z=>.lit (.string z)),p)):∀ (i:Nat) z,zs[i]?=some z→cs[i]?=some (.string (mkB z)):=by
 cases fuel with
 | zero=>simp [DataW.trod] at h
 | succ fuel =>
   simp only [DataW.trod,ht,hce,hct,Nat.mul_one] at h
   split at h
   ·obtain ⟨xs,hm,hx⟩:=Option.map_eq_some_iff.1 h
    have hxs:xs.map (·.1)=zs.map fun z=>(DataW.lit (.string z):DataW H):=by simpa using congrArg Prod.fst hx
    have hxl:xs.length=n:=by simpa using Lib.mapM_length hm
    have hzl:zs.length=n:=by
     have:=congrArg List.length hxs
     simp at this
     omega
    intro i z hz
    have hi:i < n:=by rw [←hzl];exact (List.getElem?_eq_some_iff.1 hz).1
    obtain ⟨b,hb,hf⟩:=Lib.mapM_at hm i i (by simp [hi])
    obtain ⟨s,hc,rfl,_⟩:=DataW.trod_string he hf
    have h1:cs[i]?=some (.string s):=by
     have:=congrArg (·[0]?) hc
     simpa [List.getElem?_take,List.getElem?_drop] using this
    have h2:(xs.map (·.1))[i]?=some (DataW.lit (.string s.data.toList):DataW H):=by simp [hb]
    rw [hxs] at h2
    simp only [List.getElem?_map,hz,Option.map_some,Option.some.injEq,DataW.lit.injEq,Lit.string.injEq] at h2
    rw [h1,h2,qJ]
   ·cases h
end Go.Proofs.YtdhfpgjnjlcciaaGreatDoor
end
