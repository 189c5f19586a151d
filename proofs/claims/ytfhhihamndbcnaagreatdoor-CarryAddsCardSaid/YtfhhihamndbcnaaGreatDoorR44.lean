/- PkRead3 PkParse CoFacts CyPlain CoGap CyPart CyOpen -/
import Derived.Laws.IdiomCopy
import Derived.Test.YtfhhihamndbcnaaGreatDoorR39
import Derived.Test.YtfhhihamndbcnaaGreatDoorR41
import Derived.Test.YtfhhihamndbcnaaGreatDoorR42
section
namespace Go.Proofs.YtfhhihamndbcnaaGreatDoor.Pk
open Go.RowKit Go.Maps Go.Proofs.YtfhhihamndbcnaaGreatDoor.Un
theorem qPackage (s:ByteArray):(s.toList==[112,97,99,107,97,103,101])=decide (s=tPackage):=qL s tPackage _ rfl
theorem qJournal (s:ByteArray):(s.toList==[106,111,117,114,110,97,108])=decide (s=tJournal):=qL s tJournal _ rfl
theorem qFact (s:ByteArray):(s.toList==[102,97,99,116])=decide (s=tFact):=qL s tFact _ rfl
def formR (R:Nat) (x:ByteArray):Value :=
 if x=tPackage then .tuple #[.int .i64 2,.func (.func 99) #[.pointer (some ⟨R,0,none⟩)] #[]]
 else if x=tJournal then .tuple #[.int .i64 2,.func (.func 100) #[.pointer (some ⟨R,0,none⟩)] #[]]
 else if x=tFact then .tuple #[.int .i64 5,.func (.func 101) #[.pointer (some ⟨R,0,none⟩)] #[]]
 else .tuple #[.int .i64 0,.nilFunc]
set_option maxRecDepth 100000 in
set_option maxHeartbeats 4000000 in
theorem form_any (R:Nat) (x:ByteArray) (w:World):Calls Tryz.prog 64 #[.pointer (some ⟨R,0,none⟩),.string x] w fun en w'=>en=.returned (formR R x)∧w=w':=by
 have q1:=qPackage x
 have q2:=qJournal x
 have q3:=qFact x
 have hmf:∀ (fn:Fn) (first cap:Array Value) (w:World),(Instr.makeFunc fn first cap).run Tryz.prog w=.ok (.func fn first cap) w:=fun _ _ _ _=>rfl
 unfold formR
 by_cases h1:x=tPackage
 ·rw [if_pos h1]
  rw [decide_eq_true h1] at q1
  clear q2 q3 h1
  go_enter Tryz.func64,Tryz.ntmps64
  go_wp2
  go_ret2
  exact ⟨rfl,rfl⟩
 rw [if_neg h1]
 rw [decide_eq_false h1] at q1
 by_cases h2:x=tJournal
 ·rw [if_pos h2]
  rw [decide_eq_true h2] at q2
  clear q3 h1 h2
  go_enter Tryz.func64,Tryz.ntmps64
  go_wp2
  go_ret2
  exact ⟨rfl,rfl⟩
 rw [if_neg h2]
 rw [decide_eq_false h2] at q2
 by_cases h3:x=tFact
 ·rw [if_pos h3]
  rw [decide_eq_true h3] at q3
  clear h1 h2 h3
  go_enter Tryz.func64,Tryz.ntmps64
  go_wp2
  go_ret2
  exact ⟨rfl,rfl⟩
 rw [if_neg h3]
 rw [decide_eq_false h3] at q3
 clear h1 h2 h3
 go_enter Tryz.func64,Tryz.ntmps64
 go_wp2
 go_ret2
 exact ⟨rfl,rfl⟩
set_option maxRecDepth 100000 in
set_option maxHeartbeats 4000000 in
theorem read_short (vw:Value) (ws:List ByteArray) (W:World) (R:Nat) (k:Int) (fv:Value) (hw:StrsV W vw ws) (h0:0 < ws.length) (hf:formR R (wd ws 0)=.tuple #[.int .i64 k,fv]) (hk:(ws.length:Int)≠k) :
 Calls Tryz.prog 39 #[.pointer (some ⟨R,0,none⟩),vw] W fun en w'=>en=.returned (.int .i64 5)∧W=w':=by
 obtain ⟨x0,hx0⟩:∃ x,ws[0]?=some x:=⟨_,List.getElem?_eq_getElem h0⟩
 have hwd:wd ws 0=x0:=wd_of hx0
 rw [hwd] at hf
 have HFO:=Lib.hid (fun W=>form_any R x0 W)
 simp only [hf] at HFO
 obtain ⟨p,cp,rfl,_,_,hc⟩:=hw
 obtain ⟨g,o,rfl,k0⟩:=hc 0 x0 hx0
 rw [Nat.add_zero] at k0
 obtain ⟨nw,hnw⟩:∃ nw,ws.length=nw:=⟨_,rfl⟩
 rw [hnw] at hk h0 ⊢
 have hk':((nw:Int) != k)=true:=by simp [hk]
 clear hc hx0 hwd hf hnw hk
 go_enter Tryz.func39,Tryz.ntmps39
 go_wp2_with fail
 clear k0
 refine (HFO.out _).mono ?_
 rintro en w1 ⟨rfl,rfl⟩
 go_wp2
 go_ret
 exact ⟨rfl,rfl⟩
set_option maxRecDepth 100000 in
set_option maxHeartbeats 8000000 in
theorem read_long (vw:Value) (ws:List ByteArray) (W:World) (R:Nat) (k:Int) (fn:Nat) (T:Ending→World→Prop) (hw:StrsV W vw ws) (h0:0 < ws.length) (hf:formR R (wd ws 0)=.tuple #[.int .i64 k,.func (.func fn) #[.pointer (some ⟨R,0,none⟩)] #[]]) (hk:(ws.length:Int)=k)
 (hfn:fn=99∨fn=100∨fn=101)
 (hT:∀ u,StrsV W u (ws.drop 1)→Calls Tryz.prog fn #[.pointer (some ⟨R,0,none⟩),u] W fun en w'=>∃ E:Int,en=.returned (.int .i64 E)∧T (.returned (.int .i64 E)) w') :
 Calls Tryz.prog 39 #[.pointer (some ⟨R,0,none⟩),vw] W T:=by
 obtain ⟨x0,hx0⟩:∃ x,ws[0]?=some x:=⟨_,List.getElem?_eq_getElem h0⟩
 have hwd:wd ws 0=x0:=wd_of hx0
 rw [hwd] at hf
 have HFO:=Lib.hid (fun W=>form_any R x0 W)
 simp only [hf] at HFO
 obtain ⟨p,cp,rfl,hcap,hmx,hc⟩:=hw
 obtain ⟨g,o,rfl,k0⟩:=hc 0 x0 hx0
 rw [Nat.add_zero] at k0
 obtain ⟨v1,hv1,hs1⟩:=strs_tail strs_u strs_s (⟨_,_,rfl,hcap,hmx,hc⟩:StrsV W (.slice (some ⟨g,o,none⟩) ws.length cp) ws) (k:=1) (by omega)
 have HT:=Lib.hid (hT v1 hs1)
 obtain ⟨p1,c1,rfl,_,_,_⟩:=hs1
 obtain ⟨nw,hnw⟩:∃ nw,ws.length=nw:=⟨_,rfl⟩
 obtain ⟨n1,hn1⟩:∃ n1,(ws.drop 1).length=n1:=⟨_,rfl⟩
 rw [hn1] at HT hv1
 rw [hnw] at hk h0 hv1 ⊢
 have hk':((nw:Int) != k)=false:=by simp [hk]
 have HVE:=Lib.hid hv1
 have HFN:=Lib.hid hfn
 clear hc hx0 hwd hf hnw hk hT hn1 hv1 hcap hmx HFN
 rcases hfn with rfl | rfl | rfl
 all_goals
  go_enter Tryz.func39,Tryz.ntmps39
  go_wp2_with fail
  clear k0
  refine (HFO.out _).mono ?_
  rintro en w1 ⟨rfl,rfl⟩
  have hv1:=HVE.out
  simp only [Int.natCast_one] at hv1
  go_wp2_with fail
  clear hv1
  refine HT.out.mono ?_
  rintro en w2 ⟨E,rfl,ht⟩
  have HTT:=Lib.hid ht
  clear ht
  go_wp2
  exact HTT.out
theorem formR_pack (R:Nat):formR R tPackage=.tuple #[.int .i64 2,.func (.func 99) #[.pointer (some ⟨R,0,none⟩)] #[]]:=by unfold formR;rw [if_pos rfl]
theorem formR_journal (R:Nat):formR R tJournal=.tuple #[.int .i64 2,.func (.func 100) #[.pointer (some ⟨R,0,none⟩)] #[]]:=by unfold formR;rw [if_neg tP_J.symm,if_pos rfl]
theorem formR_fact (R:Nat):formR R tFact=.tuple #[.int .i64 5,.func (.func 101) #[.pointer (some ⟨R,0,none⟩)] #[]]:=by unfold formR;rw [if_neg tP_F.symm,if_neg tJ_F.symm,if_pos rfl]
theorem formR_none (R:Nat) {x:ByteArray} (h1:x≠tPackage) (h2:x≠tJournal) (h3:x≠tFact):formR R x=.tuple #[.int .i64 0,.nilFunc]:=by unfold formR;rw [if_neg h1,if_neg h2,if_neg h3]
theorem lineP_tells {W:World} {B R m n:Nat} {c f e l:Value} {M:Mast} {S':St} {E:Int} {en:Ending} {w':World} (h:LineP W B R m n c f e l M S' E en w'):∃ E':Int,en=.returned (.int .i64 E')∧LineP W B R m n c f e l M S' E (.returned (.int .i64 E')) w':=by
 have h1:=h.1
 subst h1
 exact ⟨E,rfl,h⟩
theorem lineP_five {W:World} {B R m n:Nat} {c f e l:Value} {M:Mast} {S':St} {E:Int} {en:Ending} {w':World} (hE:E=5) (h:en=.returned (.int .i64 5)∧W=w'):LineP W B R m n c f e l M S' E en w':=by
 obtain ⟨rfl,rfl⟩:=h
 subst hE
 exact ⟨rfl,Below.refl _ _,fun h=>by cases h⟩
theorem pread_any (vw:Value) (ws:List ByteArray) (W:World) (B R m:Nat) (c f e l:Value) (M:Mast) (n:Nat) (D:DataW Unit) (S:St) (v:Value) (hw:StrsV W vw ws) (h0:0 < ws.length) (hsz:∀ y∈ws,y.size≤1000000) (hB:B≤W.heap.size) (hn:n < maxLen) (hm:MastIn W c f e l M) (hsn:Sane M) (hlc:LaidC W) (hfl:S.facts.length≤1000000) (h:PkAt W B R m c f e l M n D S v) :
 Calls Tryz.prog 39 #[.pointer (some ⟨R,0,none⟩),vw] W (LineP W B R m n c f e l M (lineV S ws) (lineE M S ws)):=by
 by_cases h1:wd ws 0=tPackage
 ·by_cases hl:ws.length=2
  ·match ws,hl,h1,hw,h0 with
   | [t,x],_,h1,hw,h0 =>
     obtain rfl:t=tPackage:=h1
     have eV:lineV S [tPackage,x]=⟨x,0,S.had++[x],S.facts⟩:=by unfold lineV;rw [if_pos (show wd [tPackage,x] 0=tPackage from rfl)];rfl
     have eE:lineE M S [tPackage,x]=if begE M x=0 then (if hadB S.had x=true then 7 else 0) else begE M x:=by unfold lineE;rw [if_pos (show wd [tPackage,x] 0=tPackage from rfl),if_pos (show [tPackage,x].length=2 from rfl)];rfl
     rw [eV,eE]
     exact read_long vw _ W R 2 _ _ hw h0 (formR_pack R) rfl (.inl rfl) fun u hu=>(readPackage_any u x W B R m c f e l M n D S v hu hB hn hm h).mono fun en w'=>lineP_tells
  ·exact (read_short vw ws W R 2 _ hw h0 (by rw [h1];exact formR_pack R) (by omega)).mono fun en w'=>lineP_five (by unfold lineE;rw [if_pos h1,if_neg hl])
 by_cases h2:wd ws 0=tJournal
 ·by_cases hl:ws.length=2
  ·match ws,hl,h1,h2,hw,h0 with
   | [t,x],_,h1,h2,hw,h0 =>
     obtain rfl:t=tJournal:=h2
     have eV:lineV S [tJournal,x]=⟨x,1,S.had,S.facts⟩:=by unfold lineV;rw [if_neg (show wd [tJournal,x] 0≠tPackage from tP_J.symm),if_pos (show wd [tJournal,x] 0=tJournal from rfl)];rfl
     have eE:lineE M S [tJournal,x]=begE M x:=by unfold lineE;rw [if_neg (show wd [tJournal,x] 0≠tPackage from tP_J.symm),if_pos (show wd [tJournal,x] 0=tJournal from rfl),if_pos (show [tJournal,x].length=2 from rfl)];rfl
     rw [eV,eE]
     exact read_long vw _ W R 2 _ _ hw h0 (formR_journal R) rfl (.inr (.inl rfl)) fun u hu=>(readJournal_any u x W B R m c f e l M n D S v hu hB hm h).mono fun en w'=>lineP_tells
  ·exact (read_short vw ws W R 2 _ hw h0 (by rw [h2];exact formR_journal R) (by omega)).mono fun en w'=>lineP_five (by unfold lineE;rw [if_neg h1,if_pos h2,if_neg hl])
 by_cases h3:wd ws 0=tFact
 ·by_cases hl:ws.length=5
  ·match ws,hl,h1,h2,h3,hw,h0,hsz with
   | [t,a,b,p,am],_,h1,h2,h3,hw,h0,hsz =>
     obtain rfl:t=tFact:=h3
     have eV:lineV S [tFact,a,b,p,am]=⟨S.ent,S.mrk,S.had,S.facts++[factV S [tFact,a,b,p,am]]⟩:=by unfold lineV;rw [if_neg (show wd [tFact,a,b,p,am] 0≠tPackage from tP_F.symm),if_neg (show wd [tFact,a,b,p,am] 0≠tJournal from tJ_F.symm)]
     have eE:lineE M S [tFact,a,b,p,am]=factE M S [tFact,a,b,p,am]:=by unfold lineE;rw [if_neg (show wd [tFact,a,b,p,am] 0≠tPackage from tP_F.symm),if_neg (show wd [tFact,a,b,p,am] 0≠tJournal from tJ_F.symm),if_pos (show wd [tFact,a,b,p,am] 0=tFact from rfl),if_pos (show [tFact,a,b,p,am].length=5 from rfl)]
     rw [eV,eE]
     exact read_long vw _ W R 5 _ _ hw h0 (formR_fact R) rfl (.inr (.inr rfl)) fun u hu=>(readFact_any u a b p am W B R m c f e l M n D S v hu hB hm hsn hlc (hsz am (by simp)) hfl h).mono fun en w'=>lineP_tells
  ·exact (read_short vw ws W R 5 _ hw h0 (by rw [h3];exact formR_fact R) (by omega)).mono fun en w'=>lineP_five (by unfold lineE;rw [if_neg h1,if_neg h2,if_pos h3,if_neg hl])
 ·exact (read_short vw ws W R 0 _ hw h0 (formR_none R h1 h2 h3) (by omega)).mono fun en w'=>lineP_five (by unfold lineE;rw [if_neg h1,if_neg h2,if_neg h3])
end Go.Proofs.YtfhhihamndbcnaaGreatDoor.Pk
end
section
namespace Go.Proofs.YtfhhihamndbcnaaGreatDoor.Pk
open Go.RowKit Go.Maps Go.Proofs.YtfhhihamndbcnaaGreatDoor.Un
structure PPAt (W0 W:World) (R m i:Nat) (l:List (List ByteArray)) (c f e k:Value) (M:Mast) (D:DataW Unit) (S:St) (v:Value):Prop where
 rd:PkAt W W0.heap.size R m c f e k M i D S v
 bel:Below W0.heap.size W0 W
 run:runP M st0 l=runP M S (l.drop i)
 few:S.facts.length≤i
theorem ppAt_start (W0:World) (l:List (List ByteArray)) (c f e k:Value) (M:Mast) :
 PPAt W0 ((W0.alloc (.map #[] 0)).alloc (.cells (pkCells c f e k M W0.heap.size st0 (.slice none 0 0)) 101)) (W0.heap.size+1) W0.heap.size 0 l c f e k M (.map []) st0 (.slice none 0 0) where
 rd:=⟨by have:=heap_alloc_new (W0.alloc (.map #[] 0)) (.cells (pkCells c f e k M W0.heap.size st0 (.slice none 0 0)) 101);rw [World.size_alloc] at this;exact this,World.ownsRow_nil _ _ _ _,(World.ownsMap_made W0 _ _ _).alloc _,HadD.zero,Nat.le_succ _,Nat.le_refl _⟩
 bel:=((Below.refl _ W0).alloc (Nat.le_refl _) _).alloc (by simp) _
 run:=rfl
 few:=Nat.le_refl _
theorem lineV_few {M:Mast} {S:St} {ws:List ByteArray} (h:lineE M S ws=0):(lineV S ws).facts.length≤S.facts.length+1:=by
 rcases line_ways h with ⟨_,_,_,_,e⟩ | ⟨_,_,_,e⟩ | ⟨_,_,_,e⟩ <;> rw [e]
 ·exact Nat.le_succ _
 ·exact Nat.le_succ _
 ·dsimp only;rw [List.length_append];exact Nat.le_refl _
theorem word_le:∀ (ws:List ByteArray) (y:ByteArray),y∈ws→y.size≤(lineL ws).length
 | [],_,h=>by cases h
 | [x],y,h=>by rw [List.mem_singleton.1 h,lineL_one,size_list];exact Nat.le_refl _
 | x::z::r,y,h=>by
   rw [lineL_two,List.length_append,List.length_append,size_list]
   rcases List.mem_cons.1 h with rfl | h
   ·omega
   ·have:=word_le (z::r) y h
    omega
theorem word_size {s:ByteArray} {ws:List ByteArray} (h:ws∈wordsT s):∀ y∈ws,y.size≤s.size+1:=fun y hy=>by
 have h1:=word_le ws y hy
 have h2:=text_size s
 have h3:∀ (l:List (List ByteArray)),ws∈l→szW ws≤szL l:=by
  intro l hl
  induction l with
  | nil=>cases hl
  | cons a r ih =>
    have e:szL (a::r)=szW a+szL r:=by simp [szL]
    rw [e]
    rcases List.mem_cons.1 hl with rfl | hl
    ·omega
    ·have:=ih hl;omega
 have h4:=h3 _ h
 unfold szW at h4
 omega
set_option maxRecDepth 100000 in
set_option maxHeartbeats 16000000 in
theorem pparse_any (c f e l:Value) (M:Mast) (s:ByteArray) (w:World) (hm:MastIn w c f e l M) (hsn:Sane M) (hlc:LaidC w) (hs:s.size≤9000) :
 Calls Tryz.prog 21 #[aggM c f e l M,.string s] w (Fa.CubeTold w (parseP M s)):=by
 obtain ⟨pc,cc,pf,cf,pe,ce,pl,cl,rfl,rfl,rfl,rfl⟩:=shapes hm
 have hb0:=(Below.refl w.heap.size w).alloc (Nat.le_refl _) (.cells (cellsM (.slice pc M.chart.length cc) (.slice pf M.flows.length cf) (.slice pe M.ents.length ce) (.slice pl M.lines.length cl) M) 31)
 have hn0:=nine_new w (.slice pc M.chart.length cc) (.slice pf M.flows.length cf) (.slice pe M.ents.length ce) (.slice pl M.lines.length cl) M 31
 obtain ⟨W1,hW1⟩:∃ W1,w.alloc (.cells (cellsM (.slice pc M.chart.length cc) (.slice pf M.flows.length cf) (.slice pe M.ents.length ce) (.slice pl M.lines.length cl) M) 31)=W1:=⟨_,rfl⟩
 rw [hW1] at hb0 hn0
 have HB1:=Lib.hid hb0
 have HN1:=Lib.hid hn0
 have HM1:=Lib.hid (hm.keep hb0)
 have HL1:=Lib.hid (hlc.below hb0)
 have HSN:=Lib.hid hsn
 have HLN:=Lib.hid (lines_any s W1 (by omega))
 have HWP:=Lib.hid (words_pos s)
 have HWS:=Lib.hid (fun ws (h:ws∈wordsT s)=>word_size h)
 have HWI:=Lib.hid (parseP_ways M s)
 have hpm:parseP M s=if linE s.data.toList=0 then endP (runP M st0 (wordsT s)) else ([],linE s.data.toList):=rfl
 obtain ⟨L,hL⟩:∃ L,asB (linV s.data.toList)=L:=⟨_,rfl⟩
 have hWT:wordsT s=L.map (·.2):=by unfold wordsT;rw [hL]
 rw [hWT] at hpm HWP HWS HWI
 have hLL:L.length≤30001:=by
  rw [←hL,asB_length]
  unfold linV
  split
  ·simp
  ·split
   ·unfold linesL
    have h1:=numP_length (enumL 1 (linesGo [] s.data.toList))
    rw [enumL_length] at h1
    have h2:=linesGo_length [] s.data.toList
    rw [size_list] at h2
    omega
   ·simp
 obtain ⟨e0,he0⟩:∃ e0,linE s.data.toList=e0:=⟨_,rfl⟩
 rw [he0] at hpm HLN HWI
 rw [hL] at HLN
 obtain ⟨P,hP⟩:∃ P,parseP M s=P:=⟨_,rfl⟩
 rw [hP] at HWI ⊢
 have HPR:Hid (P=if e0=0 then endP (runP M st0 (L.map (·.2))) else ([],e0)):=Lib.hid (by rw [←hpm,hP])
 have HS:=Lib.hid hs
 clear hpm hL hWT he0 hP hb0 hn0 hm hsn hlc hs
 go_enter Tryz.func21,Tryz.ntmps21
 go_wp2_with fail
 clear hW1
 refine HLN.out.mono ?_
 rintro en w2 ⟨v2,rfl,hlv,hb2⟩
 have HB2:=Lib.hid (HB1.out.trans (hb2.mono HB1.out.size))
 have HN2:=Lib.hid (HN1.out.kept hb2)
 have HM2:=Lib.hid (HM1.out.keep hb2)
 have HL2:=Lib.hid (HL1.out.below hb2)
 clear hb2 HB1 HN1 HM1 HL1
 obtain ⟨p,cp,rfl,hmx,hc⟩:=hlv
 have HC:=Lib.hid hc
 clear hc
 by_cases h0:e0=0
 rotate_left
 ·have HPF:Hid (P=([],e0)):=Lib.hid (by rw [HPR.out,if_neg h0])
  have h0':(e0 != 0)=true:=by simp [h0]
  clear h0
  go_wp2
  go_ret2
  exact ⟨_,by rw [HPF.out];rfl,by rw [HPF.out];exact ElsV.nil _,HB2.out⟩
 subst h0
 have HPR2:Hid (P=endP (runP M st0 (L.map (·.2)))):=Lib.hid (by rw [HPR.out,if_pos rfl])
 clear HPR
 obtain ⟨n,hn⟩:∃ n,L.length=n:=⟨_,rfl⟩
 rw [hn] at hLL ⊢
 have HN:=Lib.hid hn
 have HST:=Lib.hid (ppAt_start w2 (L.map (·.2)) (.slice pc M.chart.length cc) (.slice pf M.flows.length cf) (.slice pe M.ents.length ce) (.slice pl M.lines.length cl) M)
 have hmm:=@run_makeMap Tryz.prog
 obtain ⟨k0,k1,k2,k3,k4,k5,k6,k7,k8⟩:=HN2.out
 clear hn hmx
 go_wp2
 clear hmm k0 k1 k2 k3 k4 k5 k6 k7 k8
 go_loopw [25] (fun s25 wr=>∃ i:Nat,i≤n∧s25=.int .i64 (i:Int)∧Hid (∃ D S v,PPAt w2 wr (w2.heap.size+1) w2.heap.size i (L.map (·.2)) (.slice pc M.chart.length cc) (.slice pf M.flows.length cf) (.slice pe M.ents.length ce) (.slice pl M.lines.length cl) M D S v)) (fun s25 _=>n - (intOf s25).toNat)
 case atStart=>exact ⟨0,Nat.zero_le _,rfl,Lib.hid ⟨_,_,_,HST.out⟩⟩
 case round =>
  obtain ⟨i,hi,rfl,HPA⟩:=hrel
  obtain ⟨D,S,v,hpa⟩:=HPA.out
  have HP:=Lib.hid hpa
  clear hpa HPA
  by_cases hlt:i < n
  ·obtain ⟨⟨ln,ws⟩,hx⟩:∃ x,L[i]?=some x:=⟨_,List.getElem?_eq_getElem (by rw [HN.out];exact hlt)⟩
   obtain ⟨b,o,u,rfl,d0,d1,hu⟩:=HC.out i _ hx
   dsimp only at d0 d1 hu
   have hwx:(L.map (·.2))[i]?=some ws:=by rw [List.getElem?_map,hx];rfl
   have HWX:=Lib.hid hwx
   have HW0:=Lib.hid (HWP.out ws (List.mem_of_getElem? hwx))
   have HWZ:=Lib.hid (HWS.out ws (List.mem_of_getElem? hwx))
   have HU:=Lib.hid hu
   obtain ⟨pu,cu,rfl,_⟩:=hu
   have e0:=(HP.out.bel.cell (World.block_lt_of_cell? w2 _ d0)).trans d0
   have e1:=(HP.out.bel.cell (World.block_lt_of_cell? w2 _ d1)).trans d1
   obtain ⟨nw,hnw⟩:∃ nw,ws.length=nw:=⟨_,rfl⟩
   rw [hnw] at e1 HU
   have hbx:=(Below.refl wr.heap.size wr).alloc (Nat.le_refl _) (.cells #[.int .i64 ln,.slice pu nw cu] 104)
   have HR1:=Lib.hid (HP.out.rd.below hbx)
   have HB1:=Lib.hid (HP.out.bel.trans (hbx.mono HP.out.bel.size))
   have HRC:=Lib.hid (pread_any (.slice pu nw cu) ws _ _ _ _ _ _ _ _ M i D S v (HU.out.keep HB1.out) HW0.out (fun y hy=>by have:=HWZ.out y hy;have:=HS.out;omega) HB1.out.size (by unfold maxLen;omega) (HM2.out.keep HB1.out) HSN.out (HL2.out.below HB1.out) (by have:=HP.out.few;omega) HR1.out)
   clear hx hwx d0 d1 hnw hbx
   obtain ⟨E,hE⟩:∃ E,lineE M S ws=E:=⟨_,rfl⟩
   rw [hE] at HRC
   have HE:=Lib.hid hE
   clear hE
   go_wp2_with fail
   clear e0 e1
   refine HRC.out.mono ?_
   rintro en w3 ⟨rfl,hb3,hrd3⟩
   have HB3:=Lib.hid (HB1.out.trans hb3)
   have HRD3:=Lib.hid hrd3
   have HDR:Hid ((L.map (·.2)).drop i=ws::(L.map (·.2)).drop (i+1)):=Lib.hid (by
    have hlt':=(List.getElem?_eq_some_iff.1 HWX.out).1
    rw [List.drop_eq_getElem_cons hlt',(List.getElem?_eq_some_iff.1 HWX.out).2])
   clear hb3 hrd3
   by_cases hE0:E=0
   ·subst hE0
    have HNX:Hid (∃ D S v,PPAt w2 w3 (w2.heap.size+1) w2.heap.size (i+1) (L.map (·.2)) (.slice pc M.chart.length cc) (.slice pf M.flows.length cf) (.slice pe M.ents.length ce) (.slice pl M.lines.length cl) M D S v):=Lib.hid (by
     obtain ⟨D',v',hr⟩:=HRD3.out rfl
     exact ⟨D',_,v',hr,HB3.out,by rw [HP.out.run,HDR.out,runP_cons _ HE.out],by have:=lineV_few HE.out;have:=HP.out.few;omega⟩)
    go_wp2
    go_roundw
    case rel=>exact ⟨i+1,by omega,by go_num,HNX⟩
    case measure=>simp [intOf];omega
   ·have HPF:Hid (P=([],E)):=Lib.hid (by rw [HPR2.out,HP.out.run,HDR.out,runP_stop _ (by rw [HE.out];exact hE0),HE.out,endP_no _ hE0])
    have hE0':(E != 0)=true:=by simp [hE0]
    have HBF:=Lib.hid (HB2.out.trans (HB3.out.mono HB2.out.size))
    clear hE0
    go_wp2
    go_ret2
    exact ⟨_,by rw [HPF.out];rfl,by rw [HPF.out];exact ElsV.nil _,HBF.out⟩
  ·have HRN:Hid (runP M st0 (L.map (·.2))=(S,0)):=Lib.hid (by
    rw [HP.out.run,List.drop_eq_nil_of_le (by rw [List.length_map,HN.out];omega)];rfl)
   have HPF:Hid (P=Fa.ofL S.facts∧S.facts.length≤1000∧∀ x∈S.facts,In64 x.amt):=Lib.hid (by
    have h1:=HPR2.out
    rw [HRN.out,endP_ok] at h1
    rcases HWI.out with ⟨T,_,h3,h4,h5,_⟩ | ⟨_,_,h3 | h3⟩
    ·rw [HRN.out] at h3
     obtain rfl:=(Prod.mk.inj h3).1
     exact ⟨h1,by have:=HS.out;omega,fun x hx=>(h4.ok x hx).1⟩
    ·rw [HRN.out] at h3;exact absurd rfl h3
    ·exact absurd rfl h3)
   have HOF:=Lib.hid (Fa.of_any v S.facts wr (els_of_own HP.out.rd.facts) HPF.out.2.2 HPF.out.2.1)
   obtain ⟨_,_,_,c12⟩:=HP.out.rd.four
   obtain ⟨pv,kv,mv,hvv⟩:=own_sl HP.out.rd.facts
   subst hvv
   rw [←HPF.out.1] at HOF
   have HBW:=Lib.hid (HB2.out.trans (HP.out.bel.mono HB2.out.size))
   go_wp2_with fail
   clear c12
   refine HOF.out.mono ?_
   rintro en w4 ⟨u4,rfl,hf4,hb4⟩
   have HF4:=Lib.hid hf4
   have HB4:=Lib.hid (HBW.out.trans (hb4.mono HBW.out.size))
   clear hf4 hb4
   go_wp2
   go_ret2
   exact ⟨_,rfl,HF4.out,HB4.out⟩
end Go.Proofs.YtfhhihamndbcnaaGreatDoor.Pk
end
section
namespace Go.Proofs.YtfhhihamndbcnaaGreatDoor.Co
open Go.RowKit Go.Proofs.YtfhhihamndbcnaaGreatDoor.Un Go.Proofs.YtfhhihamndbcnaaGreatDoor.Fa Go.Proofs.YtfhhihamndbcnaaGreatDoor.Pk
theorem ofL_ok {l:List Fact} (h:∀ k,(sumFrom 0 (amts l k)).2=0):ofL l=(cube l,0):=by
 have hok:okG (grps l):=by
  intro g hg
  unfold grps at hg
  obtain ⟨k,_,rfl⟩:=List.mem_map.1 hg
  exact h k
 rcases ofL_ways l with h1 | h1
 ·exact h1
 ·have h2:=run_end _ hok
  unfold ofL at h1
  rw [h2] at h1
  cases congrArg Prod.snd h1
theorem fit_of {x:Int} (h:In64 x):fit x=true:=(fit_iff x).2 h
theorem runG_fit:∀ (G:List (Key × List Int)),∀ f∈(runG G).1,In64 f.amt
 | [],f,h=>by cases h
 | g::r,f,h=>by
   simp only [runG] at h
   split at h
   ·split at h
    ·rcases List.mem_append.1 h with h | h
     ·unfold putF at h
      split at h
      ·cases h
      ·rw [List.mem_singleton] at h
       subst h
       exact (fit_iff _).1 (fit_sumFrom _ 0 (by decide))
     ·exact runG_fit r f h
    ·cases h
   ·cases h
theorem ofL_in64 (l:List Fact):∀ f∈(ofL l).1,In64 f.amt:=runG_fit _
theorem one_sum {x:Int} (h:In64 x):sumFrom 0 [x]=(x,0):=by
 rw [sumFrom_yes [] (by rw [Int.zero_add];exact fit_of h),Int.zero_add];rfl
theorem right_one {c:List Fact} (hr:RiseF c) (k:Key):amts c k=[]∨∃ f∈c,f.key=k∧amts c k=[f.amt]:=by
 have h1:=amts_rise hr k
 unfold amts at h1 ⊢
 cases h:c.filter fun f=>decide (f.key=k) with
 | nil=>exact .inl rfl
 | cons f r =>
   rw [h] at h1
   cases r with
   | cons _ _=>simp at h1
   | nil =>
     have hf:f∈c.filter fun f=>decide (f.key=k):=by rw [h];exact List.mem_cons_self
     obtain ⟨h2,h3⟩:=List.mem_filter.1 hf
     exact .inr ⟨f,h2,of_decide_eq_true h3,rfl⟩
structure IsCube (c:List Fact):Prop where
 rise:RiseF c
 nz:∀ f∈c,f.amt≠0
 fit:∀ f∈c,In64 f.amt
theorem IsCube.self {c:List Fact} (h:IsCube c):ofL c=(c,0):=by
 rw [ofL_ok,cube_self h.rise h.nz]
 intro k
 rcases right_one h.rise k with e | ⟨f,hf,_,e⟩
 ·rw [e];rfl
 ·rw [e,one_sum (h.fit f hf)]
theorem isCube_of {l:List Fact} (h:(ofL l).2=0):IsCube (ofL l).1∧(ofL l).1=cube l:=by
 have hi:=ofL_in64 l
 rcases ofL_ways l with e | e
 ·rw [e] at hi ⊢
  exact ⟨⟨cube_rise l,cube_nz l,hi⟩,rfl⟩
 ·rw [e] at h;cases h
theorem isCube_cube {l d:List Fact} (h:ofL l=(d,0)):IsCube d∧d=cube l:=by
 have:=isCube_of (l:=l) (by rw [h])
 rwa [h] at this
theorem kind_self {M:Mast} (hr:riseK Fl.Flow.code M.flows=true) {f:Fl.Flow} (hf:f∈M.flows):hasFl M f.code=true∧kindF M f.code=f.kind:=by
 obtain ⟨_,_,x,h1,h2⟩:=Fl.kind_of hr (Fl.mem_of.2 ⟨f,hf,rfl,rfl⟩)
 unfold hasFl kindF
 rw [h1]
 exact ⟨rfl,h2⟩
theorem ones_len {L:List Fl.Flow} (ho:Fl.onesF L) {n:Int} (hn:0≤n∧n < 5) (h1:n≠1) (h:Fl.hasF L n=true):(L.filter fun f=>decide (f.kind=n)).length=1:=by
 have h2:=ho n hn h1
 unfold Fl.hasF at h
 have h3:=of_decide_eq_true h
 rw [Fl.ofF_length] at h2 h3
 omega
end Go.Proofs.YtfhhihamndbcnaaGreatDoor.Co
end
section
namespace Go.Proofs.YtfhhihamndbcnaaGreatDoor.Cy
open Go.RowKit Go.Proofs.YtfhhihamndbcnaaGreatDoor.Un Go.Proofs.YtfhhihamndbcnaaGreatDoor.Fa Go.Proofs.YtfhhihamndbcnaaGreatDoor.Pk Go.Proofs.YtfhhihamndbcnaaGreatDoor.Co
def ofK (M:Mast) (n:Int) (k:Key):Bool:=hasFl M k.f && decide (kindF M k.f=n)
def asK (fl:ByteArray) (k:Key):Key:=⟨k.e,k.a,fl,k.p,0⟩
def toldF (M:Mast) (c:List Fact) (n:Int) (fl:ByteArray):List Fact:=(c.filter fun f=>ofK M n f.key).map fun f=>⟨asK fl f.key,f.amt⟩
def firstF (M:Mast):ByteArray:=(Fl.ofF M.flows 0).head?.getD emp
def openP (M:Mast) (c:List Fact):List Fact × Int:=ofL (toldF M c 4 (firstF M))
def checkP (M:Mast) (p c:List Fact):Int :=
 if (openP M p).2≠0 then (openP M p).2
 else if (ofL (toldF M c 0 (firstF M))).2≠0 then (ofL (toldF M c 0 (firstF M))).2
 else if (openP M p).1=(ofL (toldF M c 0 (firstF M))).1 then 0 else 8
def restF (M:Mast) (c:List Fact):List Fact:=c.filter fun f=>!ofK M 0 f.key
def bringP (M:Mast) (p c:List Fact):List Fact × Int :=
 if (openP M p).2≠0 then ([],(openP M p).2) else ofL (restF M c++(openP M p).1)
theorem told_length (M:Mast) (c:List Fact) (n:Int) (fl:ByteArray):(toldF M c n fl).length≤c.length:=by
 unfold toldF
 rw [List.length_map]
 exact List.length_filter_le _ _
theorem rest_length (M:Mast) (c:List Fact):(restF M c).length≤c.length:=List.length_filter_le _ _
theorem isum_filter (u:Key→Bool) (l:List Fact) (k:Key):isum (l.filter fun f=>u f.key) k=if u k=true then isum l k else 0:=by
 induction l with
 | nil=>simp [isum_nil]
 | cons f l ih =>
   rw [List.filter_cons]
   cases h:u f.key with
   | true =>
     rw [if_pos rfl,isum_cons,ih,isum_cons]
     by_cases e:f.key=k
     ·subst e;rw [h];simp
     ·rw [if_neg e];simp
   | false =>
     rw [if_neg (by simp),ih,isum_cons]
     by_cases e:f.key=k
     ·subst e;rw [h];simp
     ·rw [if_neg e,Int.zero_add]
theorem cube_filter (u:Key→Bool) (l:List Fact):((cube l).filter fun f=>u f.key)=cube (l.filter fun f=>u f.key):=by
 refine riseF_uniq_list ((cube_rise l).filter _) (cube_rise _) fun f=>?_
 rw [List.mem_filter,mem_cube,mem_cube,isum_filter]
 constructor
 ·rintro ⟨⟨h1,h2⟩,h3⟩
  rw [if_pos h3]
  exact ⟨h1,h2⟩
 ·rintro ⟨h1,h2⟩
  by_cases h3:u f.key=true
  ·rw [if_pos h3] at h1
   exact ⟨⟨h1,h2⟩,h3⟩
  ·rw [if_neg h3] at h1
   exact absurd h1 h2
structure Opens (M:Mast):Prop where
 has:hasFl M (firstF M)=true
 kind:kindF M (firstF M)=0
 one:∀ c,hasFl M c=true→kindF M c=0→c=firstF M
theorem fl_of {M:Mast} {c:ByteArray} (h:hasFl M c=true):∃ f∈M.flows,f.code=c∧kindF M c=f.kind:=by
 unfold hasFl at h
 obtain ⟨f,hf⟩:=Option.isSome_iff_exists.1 h
 obtain ⟨h1,h2⟩:=findK_mem hf
 exact ⟨f,h2,h1,by unfold kindF;rw [hf];rfl⟩
theorem opens_of {M:Mast} (hr:Fl.riseF M.flows=true) (h0:Fl.hasF M.flows 0=true):Opens M:=by
 have h1:=Fl.rise_codes hr
 have h2:=ones_len (Fl.rise_ones hr) (n:=0) (by omega) (by omega) h0
 rw [←Fl.ofF_length] at h2
 match h3:Fl.ofF M.flows 0,h2 with
 | [x],_ =>
   have hx:x∈Fl.ofF M.flows 0:=by rw [h3];exact List.mem_cons_self
   have e:firstF M=x:=by unfold firstF;rw [h3];rfl
   obtain ⟨f,hf,hk,hc⟩:=Fl.mem_of.1 hx
   obtain ⟨h4,h5⟩:=kind_self h1 hf
   refine ⟨?_,?_,fun c hh hk=>?_⟩
   ·rw [e,←hc];exact h4
   ·rw [e,←hc,h5];exact hk
   ·obtain ⟨g,hg,h6,h7⟩:=fl_of hh
    have h8:c∈Fl.ofF M.flows 0:=Fl.mem_of.2 ⟨g,hg,by rw [←h7];exact hk,h6⟩
    rw [h3,List.mem_singleton] at h8
    rw [h8,e]
theorem Opens.ofK {M:Mast} (h:Opens M) (k:Key):ofK M 0 (asK (firstF M) k)=true:=by
 unfold Cy.ofK asK
 simp only [h.has,h.kind,decide_true,Bool.and_self]
theorem told_key {M:Mast} {c:List Fact} {n:Int} {fl:ByteArray} {f:Fact} (h:f∈toldF M c n fl):asK fl f.key=f.key:=by
 unfold toldF at h
 obtain ⟨x,_,rfl⟩:=List.mem_map.1 h
 rfl
theorem open_ok {M:Mast} {p a:List Fact} (h:openP M p=(a,0)):IsCube a∧a=cube (toldF M p 4 (firstF M))∧∀ f∈a,asK (firstF M) f.key=f.key:=by
 obtain ⟨h1,h2⟩:=isCube_cube h
 refine ⟨h1,h2,fun f hf=>?_⟩
 rw [h2] at hf
 obtain ⟨g,hg,e⟩:=cube_key hf
 rw [←e]
 exact told_key hg
theorem told_same {M:Mast} (ho:Opens M):∀ {a:List Fact},(∀ f∈a,asK (firstF M) f.key=f.key)→toldF M a 0 (firstF M)=a
 | [],_=>rfl
 | f::a,h=>by
   have h1:=h f List.mem_cons_self
   have ih:=told_same ho fun x hx=>h x (List.mem_cons_of_mem _ hx)
   unfold toldF at ih ⊢
   rw [List.filter_cons,if_pos (by rw [←h1];exact ho.ofK _),List.map_cons,ih,h1]
theorem bring_ok {M:Mast} {p c b:List Fact} (h:bringP M p c=(b,0)):∃ a,openP M p=(a,0)∧ofL (restF M c++a)=(b,0):=by
 unfold bringP at h
 by_cases h1:(openP M p).2=0
 ·rw [if_neg (by rw [h1];simp)] at h
  exact ⟨_,Prod.ext rfl h1,h⟩
 ·rw [if_pos h1] at h
  exact absurd (congrArg Prod.snd h) h1
theorem bring_told {M:Mast} (ho:Opens M) {p c b a:List Fact} (h:bringP M p c=(b,0)) (h1:openP M p=(a,0)):(b.filter fun f=>ofK M 0 f.key)=a:=by
 obtain ⟨a',h1',h2⟩:=bring_ok h
 obtain rfl:a'=a:=by rw [h1] at h1';cases h1';rfl
 obtain ⟨_,h3⟩:=isCube_cube h2
 obtain ⟨h5,_,h4⟩:=open_ok h1
 rw [h3,cube_filter fun k=>ofK M 0 k,List.filter_append]
 rw [show (restF M c).filter (fun f=>ofK M 0 f.key)=[] from List.filter_eq_nil_iff.2 fun f hf=>by
  have:=(List.mem_filter.1 hf).2
  simpa using this,List.nil_append]
 rw [List.filter_eq_self.2 fun f hf=>by rw [←h4 f hf];exact ho.ofK _]
 exact cube_self h5.rise h5.nz
theorem told_filter {M:Mast} {c:List Fact} {n:Int} {fl:ByteArray}:toldF M (c.filter fun f=>ofK M n f.key) n fl=toldF M c n fl:=by simp [toldF,List.filter_filter]
theorem bring_open {M:Mast} (ho:Opens M) {p c b a:List Fact} (h:bringP M p c=(b,0)) (h1:openP M p=(a,0)):toldF M b 0 (firstF M)=a:=by
 rw [←told_filter,bring_told ho h h1]
 exact told_same ho (open_ok h1).2.2
theorem bring_check {M:Mast} (ho:Opens M) {p c b:List Fact} (h:bringP M p c=(b,0)):checkP M p b=0:=by
 obtain ⟨a,h1,_⟩:=bring_ok h
 unfold checkP
 rw [h1,bring_open ho h h1,(open_ok h1).1.self]
 simp
end Go.Proofs.YtfhhihamndbcnaaGreatDoor.Cy
end
section
namespace Go.Proofs.YtfhhihamndbcnaaGreatDoor.Co
open Go.RowKit Go.Shelf Go.Proofs.YtfhhihamndbcnaaGreatDoor.Un Go.Proofs.YtfhhihamndbcnaaGreatDoor.Fa Go.Proofs.YtfhhihamndbcnaaGreatDoor.Pk
def memB (s:ByteArray) (ws:List ByteArray):Bool:=ws.any fun y=>decide (y=s)
theorem memB_iff {s:ByteArray} {ws:List ByteArray}:memB s ws=true ↔ s∈ws:=by
 unfold memB
 rw [List.any_eq_true]
 constructor
 ·rintro ⟨y,hy,e⟩
  rw [decide_eq_true_eq] at e
  exact e ▸ hy
 ·exact fun h=>⟨s,h,decide_eq_true rfl⟩
theorem kind_in {M:Mast} (hr:riseK Fl.Flow.code M.flows=true) {c:ByteArray} (h:hasFl M c=true) (n:Int):c∈Fl.ofF M.flows n ↔ kindF M c=n:=by
 unfold hasFl Fl.findF at h
 unfold kindF Fl.findF
 cases hf:findK Fl.Flow.code M.flows c with
 | none=>rw [hf] at h;cases h
 | some y =>
   obtain ⟨h1,h2⟩:=findK_mem hf
   rw [Fl.mem_of]
   constructor
   ·rintro ⟨f,hm,hk,hc⟩
    have:=riseK_uniq hr hm h2 (by rw [hc,h1])
    subst this
    exact hk
   ·intro e
    exact ⟨y,h2,e,h1⟩
set_option maxHeartbeats 1000000 in
theorem index_any (v:Value) (ws:List ByteArray) (s:ByteArray) (w:World) (h:StrsV w v ws) (hl:ws.length≤1000) :
 Calls Tryz.prog 70 #[v,.string s] w fun e w'=>(∃ r:Int,e=.returned (.int .i64 r)∧decide (0≤r)=memB s ws)∧w'=w:=by
 obtain ⟨p,c,rfl,hcap,hm,hc⟩:=h
 obtain ⟨n,hn⟩:∃ n,ws.length=n:=⟨_,rfl⟩
 rw [hn] at hcap hm hl ⊢
 have HC:=Lib.hid hc
 have HN:=Lib.hid hn
 unfold maxLen at hm
 clear hc hn
 go_enter Tryz.func70,Tryz.ntmps70
 go_wp2
 go_loop [8] (fun s8=>∃ i:Nat,i≤n∧s8=.int .i64 (i:Int)∧Hid (∀ (j:Nat) (y:ByteArray),j < i→ws[j]?=some y→y≠s)) (fun s8=>n - (intOf s8).toNat)
 case atStart=>exact ⟨0,Nat.zero_le _,rfl,Lib.hid fun j y hj=>absurd hj (Nat.not_lt_zero _)⟩
 case round =>
  obtain ⟨i,hi,rfl,HNO⟩:=hrel
  by_cases hlt:i < n
  ·obtain ⟨x,hx⟩:∃ x,ws[i]?=some x:=⟨_,List.getElem?_eq_getElem (by rw [HN.out];exact hlt)⟩
   obtain ⟨b,o,rfl,hat⟩:=HC.out i x hx
   have HX:=Lib.hid hx
   clear hx
   cases hxe:(s.toList==x.toList) with
   | false =>
     have HXE:=Lib.hid ((Lib.bytes_beq_false_iff s x).1 hxe)
     go_wp2
     go_round
     case rel=>exact ⟨i+1,by omega,by go_num,Lib.hid fun j y hj hy=>by
      rcases Nat.lt_or_ge j i with h | h
      ·exact HNO.out j y h hy
      ·obtain rfl:j=i:=by omega
       rw [HX.out] at hy;cases hy;exact fun e=>HXE.out e.symm⟩
     case measure=>simp [intOf];omega
   | true =>
     have HXE:=Lib.hid ((Lib.bytes_beq_iff s x).1 hxe)
     go_wp2
     go_ret
     exact ⟨⟨i,rfl,by rw [decide_eq_true (by omega:(0:Int)≤i),memB_iff.2 (by rw [HXE.out];exact List.mem_of_getElem? HX.out)]⟩,rfl⟩
  ·have HNM:Hid (memB s ws=false):=Lib.hid (Bool.eq_false_iff.2 fun hm0=>by
    have hm:=memB_iff.1 hm0
    obtain ⟨j,hj,e⟩:=List.mem_iff_getElem.1 hm
    exact HNO.out j _ (by rw [HN.out] at hj;omega) (List.getElem?_eq_getElem hj) e)
   go_wp2
   go_ret
   exact ⟨⟨-1,rfl,by rw [HNM.out];rfl⟩,rfl⟩
set_option maxHeartbeats 1000000 in
theorem contains_any (v:Value) (ws:List ByteArray) (s:ByteArray) (w:World) (h:StrsV w v ws) (hl:ws.length≤1000) :
 Calls Tryz.prog 46 #[v,.string s] w fun e w'=>e=.returned (.bool (memB s ws))∧w'=w:=by
 have HI:=Lib.hid (index_any v ws s w h hl)
 obtain ⟨b,hb⟩:∃ b,memB s ws=b:=⟨_,rfl⟩
 rw [hb] at HI ⊢
 obtain ⟨p,c,rfl,_⟩:=h
 clear hb hl
 go_enter Tryz.func46,Tryz.ntmps46
 go_wp2_with fail
 refine HI.out.mono ?_
 rintro e w' ⟨⟨r,rfl,hr⟩,rfl⟩
 have HR:=Lib.hid hr
 clear hr
 go_wp2
 go_ret
 exact ⟨by rw [←HR.out];rfl,rfl⟩
end Go.Proofs.YtfhhihamndbcnaaGreatDoor.Co
end
section
namespace Go.Proofs.YtfhhihamndbcnaaGreatDoor.Cy
open Go.RowKit Go.Proofs.YtfhhihamndbcnaaGreatDoor.Un Go.Proofs.YtfhhihamndbcnaaGreatDoor.Fa Go.Proofs.YtfhhihamndbcnaaGreatDoor.Pk Go.Proofs.YtfhhihamndbcnaaGreatDoor.Co
def byF (M:Mast) (n:Int) (c:List Fact):List Fact:=c.filter fun f=>ofK M n f.key
def othF (M:Mast) (n:Int) (c:List Fact):List Fact:=c.filter fun f=>!ofK M n f.key
def upF (fl:ByteArray) (f:Fact):Fact:=⟨asK fl f.key,f.amt⟩
theorem told_by (M:Mast) (c:List Fact) (n:Int) (fl:ByteArray):toldF M c n fl=(byF M n c).map (upF fl):=rfl
theorem by_in64 {M:Mast} {n:Int} {c:List Fact} (h:∀ f∈c,In64 f.amt):∀ f∈byF M n c,In64 f.amt:=fun f hf=>h f (List.mem_filter.1 hf).1
theorem oth_in64 {M:Mast} {n:Int} {c:List Fact} (h:∀ f∈c,In64 f.amt):∀ f∈othF M n c,In64 f.amt:=fun f hf=>h f (List.mem_filter.1 hf).1
theorem by_length (M:Mast) (n:Int) (c:List Fact):(byF M n c).length≤c.length:=List.length_filter_le _ _
theorem oth_length (M:Mast) (n:Int) (c:List Fact):(othF M n c).length≤c.length:=List.length_filter_le _ _
theorem by_yes {M:Mast} {n:Int} {c:List Fact} {i:Nat} {x:Fact} (hx:c[i]?=some x) (h:ofK M n x.key=true):byF M n (c.take (i+1))=byF M n (c.take i)++[x]∧othF M n (c.take (i+1))=othF M n (c.take i):=by
 unfold byF othF
 rw [List.take_add_one,hx]
 simp [h]
theorem by_no {M:Mast} {n:Int} {c:List Fact} {i:Nat} {x:Fact} (hx:c[i]?=some x) (h:ofK M n x.key=false):byF M n (c.take (i+1))=byF M n (c.take i)∧othF M n (c.take (i+1))=othF M n (c.take i)++[x]:=by
 unfold byF othF
 rw [List.take_add_one,hx]
 simp [h]
theorem mem_ofK {M:Mast} (hr:riseK Fl.Flow.code M.flows=true) (n:Int) (k:Key):memB k.f (Fl.ofF M.flows n)=ofK M n k:=by
 rw [Bool.eq_iff_iff,memB_iff]
 unfold ofK
 rw [Bool.and_eq_true,decide_eq_true_eq]
 constructor
 ·intro h
  obtain ⟨f,hf,hk,hc⟩:=Fl.mem_of.1 h
  obtain ⟨h1,h2⟩:=kind_self hr hf
  rw [←hc]
  exact ⟨h1,by rw [h2];exact hk⟩
 ·rintro ⟨h1,h2⟩
  exact (kind_in hr h1 n).2 h2
def mixL (fl:ByteArray) (L:List Fact) (i:Nat):List Fact:=(L.take i).map (upF fl)++L.drop i
theorem mix_length (fl:ByteArray) (L:List Fact) (i:Nat):(mixL fl L i).length=L.length:=by unfold mixL;simp;omega
theorem mix_at {fl:ByteArray} {L:List Fact} {i:Nat} {x:Fact} (h:L[i]?=some x):(mixL fl L i)[i]?=some x:=by
 have hi:i < L.length:=(List.getElem?_eq_some_iff.1 h).1
 unfold mixL
 rw [List.getElem?_append_right (by simp;omega)]
 simp only [List.length_map,List.length_take,Nat.min_eq_left (Nat.le_of_lt hi),Nat.sub_self,List.getElem?_drop,Nat.add_zero]
 exact h
theorem mix_step {fl:ByteArray} {L:List Fact} {i:Nat} {x:Fact} (h:L[i]?=some x):(mixL fl L i).set i (upF fl x)=mixL fl L (i+1):=by
 obtain ⟨hi,rfl⟩:=List.getElem?_eq_some_iff.1 h
 unfold mixL
 rw [List.set_append_right _ _ (by simp;omega)]
 simp only [List.length_map,List.length_take,Nat.min_eq_left (Nat.le_of_lt hi),Nat.sub_self]
 rw [List.drop_eq_getElem_cons hi,List.set_cons_zero,List.take_add_one,List.getElem?_eq_getElem hi,List.map_append,List.append_assoc]
 rfl
theorem set_set_at (fl:ByteArray) {L:List Fact} {i:Nat} {x:Fact} (h:L[i]?=some x):((flat encF L).set (i * 6+2) (.string fl)).set (i * 6+4) (.int .i64 0)=flat encF (L.set i (upF fl x)):=by
 have e1:=flat_cell encF (y:=⟨⟨x.key.e,x.key.a,fl,x.key.p,x.key.m⟩,x.amt⟩) (j:=2) (v:=.string fl) h (by decide) rfl
 rw [show encF.k=6 from rfl] at e1
 have h2:(L.set i ⟨⟨x.key.e,x.key.a,fl,x.key.p,x.key.m⟩,x.amt⟩)[i]?=some (⟨⟨x.key.e,x.key.a,fl,x.key.p,x.key.m⟩,x.amt⟩:Fact):=by
  rw [List.getElem?_set_self (List.getElem?_eq_some_iff.1 h).1]
 have e2:=flat_cell encF (y:=upF fl x) (j:=4) (v:=.int .i64 0) h2 (by decide) rfl
 rw [show encF.k=6 from rfl,List.set_set] at e2
 rw [e1,e2]
structure FlIn (w:World) (c f e l:Value) (M:Mast):Prop where
 sc:∃ p n k,c=.slice p n k
 flows:Fl.FlowsV w f M.flows
 se:∃ p n k,e=.slice p n k
 sl:∃ p n k,l=.slice p n k
theorem FlIn.keep {w w':World} {c f e l:Value} {M:Mast} (h:FlIn w c f e l M) (hb:Below w.heap.size w w'):FlIn w' c f e l M:=⟨h.sc,h.flows.keep hb,h.se,h.sl⟩
theorem FlIn.shapes {w:World} {c f e l:Value} {M:Mast} (h:FlIn w c f e l M):∃ pc nc cc pf cf pe ne ce pl nl cl,c=.slice pc nc cc∧f=.slice pf M.flows.length cf∧e=.slice pe ne ce∧l=.slice pl nl cl:=by
 obtain ⟨pc,nc,cc,rfl⟩:=h.sc
 obtain ⟨pe,ne,ce,rfl⟩:=h.se
 obtain ⟨pl,nl,cl,rfl⟩:=h.sl
 obtain ⟨pf,cf,rfl,_⟩:=h.flows
 exact ⟨_,_,_,_,_,_,_,_,_,_,_,rfl,rfl,rfl,rfl⟩
theorem FlIn.of {w:World} {c f e l:Value} {M:Mast} (h:MastIn w c f e l M):FlIn w c f e l M:=by
 have hf:=h.flows
 obtain ⟨pc,cc,pf,cf,pe,ce,pl,cl,rfl,rfl,rfl,rfl⟩:=Pk.shapes h
 exact ⟨⟨_,_,_,rfl⟩,hf,⟨_,_,_,rfl⟩,⟨_,_,_,rfl⟩⟩
set_option maxRecDepth 100000 in
set_option maxHeartbeats 8000000 in
theorem parted_any (c f e l vc:Value) (M:Mast) (L:List Fact) (kd:Int) (w:World) (hM:FlIn w c f e l M) (hr:riseK Fl.Flow.code M.flows=true) (hlf:M.flows.length≤1000) (hV:FactsV w vc L) (hL:L.length≤1000) :
 Calls Tryz.prog 30 #[aggM c f e l M,vc,.int .i64 kd] w fun en w'=>∃ u v,en=.returned (.tuple #[u,v])∧FactsV w' u (byF M kd L)∧FactsV w' v (othF M kd L)∧Below w.heap.size w w':=by
 obtain ⟨pv,cp,rfl,hcap,hmx,_,hcl⟩:=id hV
 obtain ⟨n,hn⟩:∃ n,L.length=n:=⟨_,rfl⟩
 obtain ⟨pc,nc,cc,pf,cf,pe,ne,ce,pl,nl,cl,rfl,rfl,rfl,rfl⟩:=hM.shapes
 obtain ⟨W1,hW1⟩:∃ W1,w.alloc (.cells (cellsM (.slice pc nc cc) (.slice pf M.flows.length cf) (.slice pe ne ce) (.slice pl nl cl) M) 31)=W1:=⟨_,rfl⟩
 have hb1:Below w.heap.size w W1:=by rw [←hW1];exact (Below.refl _ w).alloc (Nat.le_refl _) _
 have hn1:NineAt W1 w.heap.size (.slice pc nc cc) (.slice pf M.flows.length cf) (.slice pe ne ce) (.slice pl nl cl) M:=by rw [←hW1];exact nine_new w _ _ _ _ M _
 have HB1:=Lib.hid hb1
 have HN1:=Lib.hid hn1
 have HOF:=Lib.hid (Fl.of_any (.slice pf M.flows.length cf) M.flows kd W1 (hM.keep hb1).flows hlf)
 have HOL:Hid ((Fl.ofF M.flows kd).length≤1000):=Lib.hid (Nat.le_trans (Fl.ofF_len_le _ _) hlf)
 have HV1:=Lib.hid (hV.keep hb1)
 have HMO:=Lib.hid (fun k=>mem_ofK hr kd k)
 have HNN:=Lib.hid hn
 obtain ⟨ws,hws⟩:∃ ws,Fl.ofF M.flows kd=ws:=⟨_,rfl⟩
 rw [hws] at HOF HOL HMO
 rw [hn] at hcap hL HV1
 rw [hn]
 unfold maxLen at hmx
 obtain ⟨k0,k1,k2,k3,k4,k5,k6,k7,k8⟩:=HN1.out
 clear hb1 hn1 hM hr hlf hV hcl hn hws HN1
 go_enter Tryz.func30,Tryz.ntmps30
 go_wp2_with fail
 clear k0 k1 k2 k3 k4 k5 k6 k7 k8 hW1
 refine HOF.out.mono ?_
 rintro en w2 ⟨vf,rfl,hs2,hb2⟩
 have HS2:=Lib.hid hs2
 have HB2:=Lib.hid (HB1.out.trans (hb2.mono HB1.out.size))
 have HV2:=Lib.hid (HV1.out.keep hb2)
 clear hs2 hb2 HOF HB1 HV1
 go_wp2_with fail
 go_loopw [6,7,17] (fun s6 s7 s17 wr=>∃ i:Nat,s17=.int .i64 (i:Int)∧i≤n∧Hid (wr.ownsRow w2.heap.size 62 6 s6 (byF M kd (L.take i)).length (flat encF (byF M kd (L.take i))))∧Hid (wr.ownsRow w2.heap.size 62 6 s7 (othF M kd (L.take i)).length (flat encF (othF M kd (L.take i))))∧Hid (ApartE s6 s7)∧Hid (Below w2.heap.size w2 wr)) (fun _ _ s17 _=>n - (intOf s17).toNat)
 case atStart=>exact ⟨0,rfl,Nat.zero_le _,World.ownsRow_nil _ _ _ _,World.ownsRow_nil _ _ _ _,Lib.hid (.inl rfl),Lib.hid (Below.refl _ _)⟩
 case round =>
  obtain ⟨i,rfl,hi,HR6,HR7,HAP,HBR⟩:=hrel
  by_cases hlt:i < n
  ·obtain ⟨x,hx⟩:∃ x,L[i]?=some x:=⟨_,List.getElem?_eq_getElem (by rw [HNN.out];exact hlt)⟩
   obtain ⟨b,o,e',hat⟩:=ElsV.at_ HV2.out hx
   cases e'
   obtain ⟨r0,r1,r2,r3,r4,r5⟩:=fact6 (hat.keep HBR.out hat.lt)
   simp only [show encF.k=6 from rfl] at r0 r1 r2 r3 r4 r5
   have hb3:Below wr.heap.size wr (wr.alloc (.cells #[.string x.key.e,.string x.key.a,.string x.key.f,.string x.key.p,.int .i64 x.key.m,.int .i64 x.amt] 62)):=(Below.refl _ wr).alloc (Nat.le_refl _) _
   have HB3:=Lib.hid (HBR.out.trans (hb3.mono HBR.out.size))
   have HO6:=Lib.hid (HR6.out.alloc (.cells #[.string x.key.e,.string x.key.a,.string x.key.f,.string x.key.p,.int .i64 x.key.m,.int .i64 x.amt] 62))
   have HO7:=Lib.hid (HR7.out.alloc (.cells #[.string x.key.e,.string x.key.a,.string x.key.f,.string x.key.p,.int .i64 x.key.m,.int .i64 x.amt] 62))
   have HCO:=Lib.hid (contains_any vf ws x.key.f _ (HS2.out.keep HB3.out) HOL.out)
   rw [HMO.out x.key] at HCO
   have HL6:Hid ((byF M kd (L.take i)).length≤i):=Lib.hid (Nat.le_trans (by_length _ _ _) (by rw [List.length_take];exact Nat.min_le_left _ _))
   have HL7:Hid ((othF M kd (L.take i)).length≤i):=Lib.hid (Nat.le_trans (oth_length _ _ _) (by rw [List.length_take];exact Nat.min_le_left _ _))
   have HX:=Lib.hid hx
   clear hx hat hb3
   cases hk:ofK M kd x.key with
   | true =>
     have HTK:=Lib.hid (by_yes HX.out hk)
     rw [hk] at HCO
     clear hk
     go_wp2_with (first
      | (go_at_call 46;refine HCO.out.mono ?_;rintro en w' ⟨rfl,rfl⟩)
      | (at_builtin;refine wpList_append_two (E:=encF) rfl _ _ 42 62 rfl infoF w2.heap.size (byF M kd (L.take i)) x (wr.heap.size+1) (HO6.out.alloc _) rfl (el_new1 _ _ _ _) (by have:=HBR.out.size;simp;omega) (by have:=HL6.out;omega) u7 (othF M kd (L.take i)) (HO7.out.alloc _) HAP.out ?_;intro v9 w9 hr9 ho9 ha9 hb9)
      | fail)
     have HR9:=Lib.hid hr9
     have HO9:=Lib.hid ho9
     have HA9:=Lib.hid ha9
     have HB9:Hid (Below w2.heap.size w2 w9):=Lib.hid ((HB3.out.alloc (by have:=HBR.out.size;simp;omega) _).trans hb9)
     clear hr9 ho9 ha9 hb9 r0 r1 r2 r3 r4 r5 HO6 HO7 HCO
     go_wp2
     go_roundw
     case rel=>exact ⟨i+1,by go_num,by omega,by rw [HTK.out.1];exact HR9,by rw [HTK.out.2];exact HO9,HA9,HB9⟩
     case measure=>simp [intOf];omega
   | false =>
     have HTK:=Lib.hid (by_no HX.out hk)
     rw [hk] at HCO
     clear hk
     go_wp2_with (first
      | (go_at_call 46;refine HCO.out.mono ?_;rintro en w' ⟨rfl,rfl⟩)
      | (at_builtin;refine wpList_append_two (E:=encF) rfl _ _ 42 62 rfl infoF w2.heap.size (othF M kd (L.take i)) x (wr.heap.size+1) (HO7.out.alloc _) rfl (el_new1 _ _ _ _) (by have:=HBR.out.size;simp;omega) (by have:=HL7.out;omega) u6 (byF M kd (L.take i)) (HO6.out.alloc _) HAP.out.symm ?_;intro v9 w9 hr9 ho9 ha9 hb9)
      | fail)
     have HR9:=Lib.hid hr9
     have HO9:=Lib.hid ho9
     have HA9:=Lib.hid ha9.symm
     have HB9:Hid (Below w2.heap.size w2 w9):=Lib.hid ((HB3.out.alloc (by have:=HBR.out.size;simp;omega) _).trans hb9)
     clear hr9 ho9 ha9 hb9 r0 r1 r2 r3 r4 r5 HO6 HO7 HCO
     go_wp2
     go_roundw
     case rel=>exact ⟨i+1,by go_num,by omega,by rw [HTK.out.1];exact HO9,by rw [HTK.out.2];exact HR9,HA9,HB9⟩
     case measure=>simp [intOf];omega
  ·obtain rfl:i=n:=by omega
   have HF6:Hid (FactsV wr u6 (byF M kd L)):=Lib.hid (by have:=HR6.out;rw [List.take_of_length_le (by rw [HNN.out];exact Nat.le_refl _)] at this;exact els_of_own this)
   have HF7:Hid (FactsV wr u7 (othF M kd L)):=Lib.hid (by have:=HR7.out;rw [List.take_of_length_le (by rw [HNN.out];exact Nat.le_refl _)] at this;exact els_of_own this)
   have HBF:=Lib.hid (HB2.out.trans (HBR.out.mono HB2.out.size))
   clear HR6 HR7 HAP
   go_wp2
   go_ret2
   exact ⟨_,_,rfl,HF6.out,HF7.out,HBF.out⟩
set_option maxRecDepth 100000 in
set_option maxHeartbeats 8000000 in
theorem opening_any (c f e l vc:Value) (M:Mast) (L:List Fact) (w:World) (hM:FlIn w c f e l M) (hlf:M.flows.length≤1000) (hop:Fl.hasF M.flows 0=true) (hV:FactsV w vc L) (hz:∀ x∈L,In64 x.amt) (hL:L.length≤1000) :
 Calls Tryz.prog 31 #[aggM c f e l M,vc] w (CubeTold w (ofL (L.map (upF (firstF M))))):=by
 obtain ⟨n,hn⟩:∃ n,L.length=n:=⟨_,rfl⟩
 obtain ⟨pc,nc,cc,pf,cf,pe,ne,ce,pl,nl,cl,rfl,rfl,rfl,rfl⟩:=hM.shapes
 obtain ⟨W1,hW1⟩:∃ W1,w.alloc (.cells (cellsM (.slice pc nc cc) (.slice pf M.flows.length cf) (.slice pe ne ce) (.slice pl nl cl) M) 31)=W1:=⟨_,rfl⟩
 have hb1:Below w.heap.size w W1:=by rw [←hW1];exact (Below.refl _ w).alloc (Nat.le_refl _) _
 have hn1:NineAt W1 w.heap.size (.slice pc nc cc) (.slice pf M.flows.length cf) (.slice pe ne ce) (.slice pl nl cl) M:=by rw [←hW1];exact nine_new w _ _ _ _ M _
 have HB1:=Lib.hid hb1
 have HN1:=Lib.hid hn1
 have HOF:=Lib.hid (Fl.of_any (.slice pf M.flows.length cf) M.flows 0 W1 (hM.keep hb1).flows hlf)
 have hol:(Fl.ofF M.flows 0).length≤1000:=Nat.le_trans (Fl.ofF_len_le _ _) hlf
 have hpos:0 < (Fl.ofF M.flows 0).length:=by unfold Fl.hasF at hop;exact of_decide_eq_true hop
 obtain ⟨fl,hfl⟩:∃ fl,firstF M=fl:=⟨_,rfl⟩
 have h0:(Fl.ofF M.flows 0)[0]?=some fl:=by
  rw [←hfl]
  unfold firstF
  cases hq:Fl.ofF M.flows 0 with
  | nil=>rw [hq] at hpos;exact absurd hpos (by simp)
  | cons a r=>rfl
 obtain ⟨ws,hws⟩:∃ ws,Fl.ofF M.flows 0=ws:=⟨_,rfl⟩
 rw [hws] at HOF hol hpos h0
 rw [hfl]
 have HF0:=Lib.hid h0
 have HV1:=Lib.hid (hV.keep hb1)
 have HNN:=Lib.hid hn
 have HZ:Hid (∀ x∈L.map (upF fl),In64 x.amt):=Lib.hid (fun x hx=>by
  obtain ⟨y,hy,rfl⟩:=List.mem_map.1 hx
  exact hz y hy)
 obtain ⟨R,hR⟩:∃ R,ofL (L.map (upF fl))=R:=⟨_,rfl⟩
 have HR:=Lib.hid hR
 rw [hR]
 obtain ⟨m,hm⟩:∃ m,ws.length=m:=⟨_,rfl⟩
 rw [hm] at hpos hol
 have HM:=Lib.hid hm
 have hm1:((m:Int)==0)=false:=by simp;omega
 obtain ⟨k0,k1,k2,k3,k4,k5,k6,k7,k8⟩:=HN1.out
 clear hb1 hn1 hM hlf hV hz hop hn hws HN1 h0 hR hm hfl
 go_enter Tryz.func31,Tryz.ntmps31
 go_wp2_with fail
 clear k0 k1 k2 k3 k4 k5 k6 k7 k8 hW1
 refine HOF.out.mono ?_
 rintro en w2 ⟨vf,rfl,hs2,hb2⟩
 obtain ⟨pw,cw,rfl,hcw,hmw,hcl⟩:=hs2
 rw [HM.out] at hcw ⊢
 have HCL:=Lib.hid hcl
 have HB2:=Lib.hid (HB1.out.trans (hb2.mono HB1.out.size))
 have HV2:=Lib.hid (HV1.out.keep hb2)
 unfold maxLen at hmw
 clear hb2 HOF HB1 HV1 hcl
 have HCN:=Lib.hid (cloneC_any vc L w2 HV2.out (by rw [HNN.out];exact HNN.out ▸ hL))
 go_wp2_with fail
 refine HCN.out.mono ?_
 rintro en w3 ⟨v3,rfl,ho3,hb3⟩
 rw [HNN.out] at ho3
 have HO3:=Lib.hid ho3
 obtain ⟨p3,c3,rfl,hc3,hm3,_,_⟩:=els_of_own (E:=encF) (L:=L) (by rw [HNN.out];exact ho3)
 rw [HNN.out] at hc3 HO3 ⊢
 have HB3:=Lib.hid (HB2.out.trans (hb3.mono HB2.out.size))
 have HQ3:=Lib.hid hb3
 unfold maxLen at hm3
 clear ho3 hb3 HCN HV2
 have hln:n≤1000:=by rw [←HNN.out];exact hL
 clear hL
 go_wp2_with fail
 go_loopw [19] (fun s19 wr=>∃ i:Nat,s19=.int .i64 (i:Int)∧i≤n∧Hid (wr.ownsRow w2.heap.size 62 6 (.slice p3 n c3) n (flat encF (mixL fl L i)))∧Hid (Below w2.heap.size w2 wr)) (fun s19 _=>n - (intOf s19).toNat)
 case atStart=>exact ⟨0,rfl,Nat.zero_le _,Lib.hid (by simpa [mixL] using HO3.out),HQ3⟩
 case round =>
  obtain ⟨i,rfl,hi,HRO,HBR⟩:=hrel
  by_cases hlt:i < n
  ·obtain ⟨x,hx⟩:∃ x,L[i]?=some x:=⟨_,List.getElem?_eq_getElem (by rw [HNN.out];exact hlt)⟩
   obtain ⟨g,c4,e4,hBg,hgl,_,_,hfz⟩:=own_block HRO.out (by omega)
   cases e4
   obtain ⟨b1,o1,rfl,d1⟩:=HCL.out 0 _ HF0.out
   have d0:=(HBR.out.cell (p:=⟨b1,o1+0,none⟩) (World.block_lt_of_cell? w2 _ d1)).trans d1
   rw [Nat.add_zero] at d0
   have hmix:ElsV encF wr (.slice (some ⟨g,0,none⟩) n c3) (mixL fl L i):=by
    have:=HRO.out
    rw [←HNN.out,←mix_length fl L i] at this
    have e:=els_of_own (E:=encF) this
    rw [mix_length,HNN.out] at e
    exact e
   obtain ⟨b2,o2,e2,hat⟩:=ElsV.at_ hmix (mix_at (fl:=fl) hx)
   cases e2
   obtain ⟨r0,r1,r2,r3,r4,r5⟩:=fact6 hat
   simp only [show encF.k=6 from rfl,Nat.zero_add] at r0 r1 r2 r3 r4 r5
   obtain ⟨q1,g1⟩:=World.ownsRow.stored HRO.out (i * 6+2) (.string fl)
   obtain ⟨q2,g2⟩:=World.ownsRow.stored q1 (i * 6+4) (.int .i64 0)
   rw [set_set_at fl (mix_at (fl:=fl) hx),mix_step hx] at q2
   have HRO2:=Lib.hid q2
   have hb4:=HBR.out.setCell (p:=⟨g,i * 6+2,none⟩) hBg (.string fl)
   have HB4:=Lib.hid (hb4.setCell (p:=⟨g,i * 6+4,none⟩) hBg (.int .i64 0))
   have hf1:=hfz (i * 6+2)
   have hf2:(wr.setCell ⟨g,i * 6+2,none⟩ (.string fl)).frozen? ⟨g,i * 6+4,none⟩=false:=by
    obtain ⟨_,_,e5,_,_,_,_,h5⟩:=own_block q1 (by omega)
    cases e5
    exact h5 _
   have r6:(wr.setCell ⟨g,i * 6+2,none⟩ (.string fl)).cell? ⟨g,i * 6+4,none⟩=some (.int .i64 x.key.m):=by
    rw [World.cell?_setCell_other]
    ·exact r4
    ·intro e5
     simp only [Addr.mk.injEq] at e5
     omega
   clear hx hat hmix hfz q1 q2 g1 g2 hb4 d1 r0 r1 r3 r5 HRO
   go_wp2
   go_roundw
   case rel=>exact ⟨i+1,by go_num,by omega,HRO2,HB4⟩
   case measure=>simp [intOf];omega
  ·obtain rfl:i=n:=by omega
   have HF:Hid (FactsV wr (.slice p3 i c3) (L.map (upF fl))):=Lib.hid (by
    have h1:=HRO.out
    have e:mixL fl L i=L.map (upF fl):=by unfold mixL;rw [List.take_of_length_le (by rw [HNN.out];exact Nat.le_refl _),List.drop_of_length_le (by rw [HNN.out];exact Nat.le_refl _),List.append_nil]
    rw [e] at h1
    have hl:(L.map (upF fl)).length=i:=by rw [List.length_map];exact HNN.out
    rw [←hl] at h1 ⊢
    exact els_of_own h1)
   have HBF:=Lib.hid (HB2.out.trans (HBR.out.mono HB2.out.size))
   have HOA:=Lib.hid (Fa.of_any (.slice p3 i c3) (L.map (upF fl)) wr HF.out HZ.out (by rw [List.length_map,HNN.out];exact hln))
   rw [HR.out] at HOA
   clear HRO HF
   go_wp2_with fail
   refine HOA.out.mono ?_
   rintro en w6 ⟨u6,rfl,hv6,hb6⟩
   have HV6:=Lib.hid hv6
   have HB6:=Lib.hid (HBF.out.trans (hb6.mono HBF.out.size))
   clear hv6 hb6
   go_wp2
   go_ret2
   exact ⟨u6,rfl,HV6.out,HB6.out⟩
end Go.Proofs.YtfhhihamndbcnaaGreatDoor.Cy
end
section
namespace Go.Proofs.YtfhhihamndbcnaaGreatDoor.Cy
open Go.RowKit Go.Proofs.YtfhhihamndbcnaaGreatDoor.Un Go.Proofs.YtfhhihamndbcnaaGreatDoor.Fa Go.Proofs.YtfhhihamndbcnaaGreatDoor.Pk Go.Proofs.YtfhhihamndbcnaaGreatDoor.Co
theorem open_in64 (M:Mast) (c:List Fact):∀ f∈(openP M c).1,In64 f.amt:=ofL_in64 _
theorem open_length (M:Mast) (c:List Fact):(openP M c).1.length≤c.length:=by
 have h1:=ofL_length (toldF M c 4 (firstF M))
 exact Nat.le_trans h1 (told_length _ _ _ _)
theorem sum_length {M:Mast} {p c:List Fact} (hp:p.length≤500) (hc:c.length≤500):(restF M c).length+(openP M p).1.length≤1000:=by
 have h1:=rest_length M c
 have h2:=open_length M p
 omega
structure Opn (M:Mast):Prop where
 rise:riseK Fl.Flow.code M.flows=true
 flen:M.flows.length≤1000
 has:Fl.hasF M.flows 0=true
set_option maxRecDepth 100000 in
set_option maxHeartbeats 8000000 in
theorem open_any (c f e l vc:Value) (M:Mast) (L:List Fact) (w:World) (hM:FlIn w c f e l M) (hO:Opn M) (hV:FactsV w vc L) (hz:∀ x∈L,In64 x.amt) (hL:L.length≤1000) :
 Calls Tryz.prog 12 #[aggM c f e l M,vc] w (CubeTold w (openP M L)):=by
 obtain ⟨pc,nc,cc,pf,cf,pe,ne,ce,pl,nl,cl,rfl,rfl,rfl,rfl⟩:=hM.shapes
 obtain ⟨W1,hW1⟩:∃ W1,w.alloc (.cells (cellsM (.slice pc nc cc) (.slice pf M.flows.length cf) (.slice pe ne ce) (.slice pl nl cl) M) 31)=W1:=⟨_,rfl⟩
 have hb1:Below w.heap.size w W1:=by rw [←hW1];exact (Below.refl _ w).alloc (Nat.le_refl _) _
 have hn1:NineAt W1 w.heap.size (.slice pc nc cc) (.slice pf M.flows.length cf) (.slice pe ne ce) (.slice pl nl cl) M:=by rw [←hW1];exact nine_new w _ _ _ _ M _
 have HB1:=Lib.hid hb1
 have HN1:=Lib.hid hn1
 have HM1:=Lib.hid (hM.keep hb1)
 have HPT:=Lib.hid (parted_any (.slice pc nc cc) (.slice pf M.flows.length cf) (.slice pe ne ce) (.slice pl nl cl) vc M L 4 W1 HM1.out hO.rise hO.flen (hV.keep hb1) hL)
 obtain ⟨R,hR⟩:∃ R,openP M L=R:=⟨_,rfl⟩
 have HOG:Hid (∀ (v:Value) (W:World),FlIn W (.slice pc nc cc) (.slice pf M.flows.length cf) (.slice pe ne ce) (.slice pl nl cl) M→FactsV W v (byF M 4 L)→Calls Tryz.prog 31 #[aggM (.slice pc nc cc) (.slice pf M.flows.length cf) (.slice pe ne ce) (.slice pl nl cl) M,v] W (CubeTold W R)):=Lib.hid fun v W h1 h2=>by
  have:=opening_any (.slice pc nc cc) (.slice pf M.flows.length cf) (.slice pe ne ce) (.slice pl nl cl) v M (byF M 4 L) W h1 hO.flen hO.has h2 (by_in64 hz) (Nat.le_trans (by_length _ _ _) hL)
  rw [←told_by] at this
  unfold openP at hR
  rw [hR] at this
  exact this
 rw [hR]
 obtain ⟨k0,k1,k2,k3,k4,k5,k6,k7,k8⟩:=HN1.out
 clear hb1 hn1 hM hO hV hz hL hR
 go_enter Tryz.func12,Tryz.ntmps12
 go_wp2_with fail
 clear k0 k1 k2 k3 k4 k5 k6 k7 k8 hW1
 refine HPT.out.mono ?_
 rintro en w2 ⟨u2,o2,rfl,hv2,_,hb2⟩
 have HV2:=Lib.hid hv2
 have HB2:=Lib.hid (HB1.out.trans (hb2.mono HB1.out.size))
 have HM2:=Lib.hid (HM1.out.keep hb2)
 have HN2:=Lib.hid (HN1.out.kept hb2)
 clear hb2 hv2 HPT HM1 HN1 HB1
 obtain ⟨k0,k1,k2,k3,k4,k5,k6,k7,k8⟩:=HN2.out
 go_wp2_with fail
 clear k0 k1 k2 k3 k4 k5 k6 k7 k8
 refine (HOG.out _ _ HM2.out HV2.out).mono ?_
 rintro en w3 ⟨u3,rfl,hv3,hb3⟩
 have HV3:=Lib.hid hv3
 have HB3:=Lib.hid (HB2.out.trans (hb3.mono HB2.out.size))
 clear hb3 hv3
 go_wp2
 go_ret2
 exact ⟨u3,rfl,HV3.out,HB3.out⟩
set_option maxRecDepth 100000 in
set_option maxHeartbeats 8000000 in
theorem check_any (c f e l vp vc:Value) (M:Mast) (Q L:List Fact) (w:World) (hM:FlIn w c f e l M) (hO:Opn M) (hVp:FactsV w vp Q) (hzp:∀ x∈Q,In64 x.amt) (hLp:Q.length≤1000) (hV:FactsV w vc L) (hz:∀ x∈L,In64 x.amt) (hL:L.length≤1000) :
 Calls Tryz.prog 19 #[aggM c f e l M,vp,vc] w fun en w'=>en=.returned (.int .i64 (checkP M Q L))∧Below w.heap.size w w':=by
 obtain ⟨pc,nc,cc,pf,cf,pe,ne,ce,pl,nl,cl,rfl,rfl,rfl,rfl⟩:=hM.shapes
 obtain ⟨W1,hW1⟩:∃ W1,w.alloc (.cells (cellsM (.slice pc nc cc) (.slice pf M.flows.length cf) (.slice pe ne ce) (.slice pl nl cl) M) 31)=W1:=⟨_,rfl⟩
 have hb1:Below w.heap.size w W1:=by rw [←hW1];exact (Below.refl _ w).alloc (Nat.le_refl _) _
 have hn1:NineAt W1 w.heap.size (.slice pc nc cc) (.slice pf M.flows.length cf) (.slice pe ne ce) (.slice pl nl cl) M:=by rw [←hW1];exact nine_new w _ _ _ _ M _
 have HB1:=Lib.hid hb1
 have HN1:=Lib.hid hn1
 have HM1:=Lib.hid (hM.keep hb1)
 obtain ⟨S,hS⟩:∃ S,checkP M Q L=S:=⟨_,rfl⟩
 have HSS:=Lib.hid hS
 rw [hS]
 have HOQ:=Lib.hid (open_any (.slice pc nc cc) (.slice pf M.flows.length cf) (.slice pe ne ce) (.slice pl nl cl) vp M Q W1 HM1.out hO (hVp.keep hb1) hzp hLp)
 have HPT:=Lib.hid (fun (W:World) (h:FlIn W (.slice pc nc cc) (.slice pf M.flows.length cf) (.slice pe ne ce) (.slice pl nl cl) M) (h2:FactsV W vc L)=>parted_any (.slice pc nc cc) (.slice pf M.flows.length cf) (.slice pe ne ce) (.slice pl nl cl) vc M L 0 W h hO.rise hO.flen h2 hL)
 have HV1:=Lib.hid (hV.keep hb1)
 obtain ⟨A,hA⟩:∃ A,openP M Q=A:=⟨_,rfl⟩
 have HAA:=Lib.hid hA
 rw [hA] at HOQ
 obtain ⟨A,ae⟩:=A
 obtain ⟨R,hR⟩:∃ R,ofL (toldF M L 0 (firstF M))=R:=⟨_,rfl⟩
 have HRR:=Lib.hid hR
 have HOG:Hid (∀ (v:Value) (W:World),FlIn W (.slice pc nc cc) (.slice pf M.flows.length cf) (.slice pe ne ce) (.slice pl nl cl) M→FactsV W v (byF M 0 L)→Calls Tryz.prog 31 #[aggM (.slice pc nc cc) (.slice pf M.flows.length cf) (.slice pe ne ce) (.slice pl nl cl) M,v] W (CubeTold W R)):=Lib.hid fun v W h1 h2=>by
  have:=opening_any (.slice pc nc cc) (.slice pf M.flows.length cf) (.slice pe ne ce) (.slice pl nl cl) v M (byF M 0 L) W h1 hO.flen hO.has h2 (by_in64 hz) (Nat.le_trans (by_length _ _ _) hL)
  rw [←told_by,hR] at this
  exact this
 obtain ⟨B,be⟩:=R
 obtain ⟨k0,k1,k2,k3,k4,k5,k6,k7,k8⟩:=HN1.out
 clear hb1 hn1 hM hO hVp hzp hLp hV hz hL hR hA hS
 go_enter Tryz.func19,Tryz.ntmps19
 go_wp2_with fail
 clear k0 k1 k2 k3 k4 k5 k6 k7 k8 hW1
 refine HOQ.out.mono ?_
 rintro en w2 ⟨u2,rfl,hv2,hb2⟩
 dsimp only at hv2
 have HVA2:=Lib.hid hv2
 have HB2:=Lib.hid (HB1.out.trans (hb2.mono HB1.out.size))
 have HM2:=Lib.hid (HM1.out.keep hb2)
 have HV2:=Lib.hid (HV1.out.keep hb2)
 have HN2:=Lib.hid (HN1.out.kept hb2)
 clear hb2 hv2 HOQ HM1 HV1 HN1 HB1
 by_cases hae:ae=0
 ·subst hae
  obtain ⟨k0,k1,k2,k3,k4,k5,k6,k7,k8⟩:=HN2.out
  go_wp2_with fail
  clear k0 k1 k2 k3 k4 k5 k6 k7 k8
  refine (HPT.out _ HM2.out HV2.out).mono ?_
  rintro en w3 ⟨u3,o3,rfl,hv3,ho3,hb3⟩
  have HV3:=Lib.hid hv3
  have HO3:=Lib.hid ho3
  have HB3:=Lib.hid (HB2.out.trans (hb3.mono HB2.out.size))
  have HM3:=Lib.hid (HM2.out.keep hb3)
  have HVA3:=Lib.hid (HVA2.out.keep hb3)
  have HN3:=Lib.hid (HN2.out.kept hb3)
  clear hb3 hv3 ho3 HPT HM2 HV2 HN2 HB2 HVA2
  obtain ⟨k0,k1,k2,k3,k4,k5,k6,k7,k8⟩:=HN3.out
  go_wp2_with fail
  clear k0 k1 k2 k3 k4 k5 k6 k7 k8
  refine (HOG.out _ _ HM3.out HV3.out).mono ?_
  rintro en w4 ⟨u4,rfl,hv4,hb4⟩
  dsimp only at hv4
  have HVB4:=Lib.hid hv4
  have HB4:=Lib.hid (HB3.out.trans (hb4.mono HB3.out.size))
  have HVA4:=Lib.hid (HVA3.out.keep hb4)
  clear hb4 hv4 HOG HM3 HN3 HB3 HVA3 HV3 HO3
  by_cases hbe:be=0
  ·subst hbe
   have HCS:Hid (S=if A=B then 0 else 8):=Lib.hid (by
    rw [←HSS.out]
    unfold checkP
    rw [HAA.out,HRR.out]
    simp)
   go_wp2_with fail
   refine (equalF_any _ _ A B _ HVA4.out HVB4.out).mono ?_
   rintro en w7 ⟨rfl,hb7⟩
   have HB7:=Lib.hid (HB4.out.trans (hb7.mono HB4.out.size))
   clear hb7
   by_cases hab:A=B
   ·have hsm:Fa.sameL A B=true:=by unfold Fa.sameL;exact decide_eq_true hab
    obtain rfl:S=0:=by rw [HCS.out,if_pos hab]
    clear hab
    rw [hsm]
    clear hsm
    go_wp2
    go_ret
    exact ⟨rfl,HB7.out⟩
   ·have hsm:Fa.sameL A B=false:=by unfold Fa.sameL;exact decide_eq_false hab
    obtain rfl:S=8:=by rw [HCS.out,if_neg hab]
    clear hab
    rw [hsm]
    clear hsm
    go_wp2
    go_ret
    exact ⟨rfl,HB7.out⟩
  ·have hbe1:(be != 0)=true:=by simpa using hbe
   obtain rfl:S=be:=by
    rw [←HSS.out]
    unfold checkP
    rw [HAA.out,HRR.out]
    simp [hbe]
   clear hbe
   go_wp2
   go_ret
   exact ⟨rfl,HB4.out⟩
 ·have hae1:(ae != 0)=true:=by simpa using hae
  obtain rfl:S=ae:=by
   rw [←HSS.out]
   unfold checkP
   rw [HAA.out]
   simp [hae]
  clear hae
  go_wp2
  go_ret
  exact ⟨rfl,HB2.out⟩
set_option maxRecDepth 100000 in
set_option maxHeartbeats 8000000 in
theorem bring_any (c f e l vp vc:Value) (M:Mast) (Q L:List Fact) (w:World) (hM:FlIn w c f e l M) (hO:Opn M) (hVp:FactsV w vp Q) (hzp:∀ x∈Q,In64 x.amt) (hLp:Q.length≤1000) (hV:FactsV w vc L) (hz:∀ x∈L,In64 x.amt) (hL:L.length≤1000) (hLL:(restF M L).length+(openP M Q).1.length≤1000) :
 Calls Tryz.prog 15 #[aggM c f e l M,vp,vc] w (CubeTold w (bringP M Q L)):=by
 obtain ⟨pc,nc,cc,pf,cf,pe,ne,ce,pl,nl,cl,rfl,rfl,rfl,rfl⟩:=hM.shapes
 obtain ⟨W1,hW1⟩:∃ W1,w.alloc (.cells (cellsM (.slice pc nc cc) (.slice pf M.flows.length cf) (.slice pe ne ce) (.slice pl nl cl) M) 31)=W1:=⟨_,rfl⟩
 have hb1:Below w.heap.size w W1:=by rw [←hW1];exact (Below.refl _ w).alloc (Nat.le_refl _) _
 have hn1:NineAt W1 w.heap.size (.slice pc nc cc) (.slice pf M.flows.length cf) (.slice pe ne ce) (.slice pl nl cl) M:=by rw [←hW1];exact nine_new w _ _ _ _ M _
 have HB1:=Lib.hid hb1
 have HN1:=Lib.hid hn1
 have HM1:=Lib.hid (hM.keep hb1)
 obtain ⟨S,hS⟩:∃ S,bringP M Q L=S:=⟨_,rfl⟩
 have HSS:=Lib.hid hS
 rw [hS]
 have HOQ:=Lib.hid (open_any (.slice pc nc cc) (.slice pf M.flows.length cf) (.slice pe ne ce) (.slice pl nl cl) vp M Q W1 HM1.out hO (hVp.keep hb1) hzp hLp)
 have HPT:=Lib.hid (fun (W:World) (h:FlIn W (.slice pc nc cc) (.slice pf M.flows.length cf) (.slice pe ne ce) (.slice pl nl cl) M) (h2:FactsV W vc L)=>parted_any (.slice pc nc cc) (.slice pf M.flows.length cf) (.slice pe ne ce) (.slice pl nl cl) vc M L 0 W h hO.rise hO.flen h2 hL)
 have HV1:=Lib.hid (hV.keep hb1)
 have hoz:=open_in64 M Q
 have hol:(othF M 0 L).length+(openP M Q).1.length≤1000:=hLL
 obtain ⟨A,hA⟩:∃ A,openP M Q=A:=⟨_,rfl⟩
 have HAA:=Lib.hid hA
 rw [hA] at HOQ hoz hol
 obtain ⟨A,ae⟩:=A
 have HOZ:=Lib.hid hoz
 have HOL:=Lib.hid hol
 dsimp only at HOZ HOL
 have HRZ:Hid (∀ x∈othF M 0 L,In64 x.amt):=Lib.hid (oth_in64 hz)
 obtain ⟨k0,k1,k2,k3,k4,k5,k6,k7,k8⟩:=HN1.out
 clear hb1 hn1 hM hO hVp hzp hLp hV hz hL hA hS hoz hol hLL
 go_enter Tryz.func15,Tryz.ntmps15
 go_wp2_with fail
 clear k0 k1 k2 k3 k4 k5 k6 k7 k8 hW1
 refine HOQ.out.mono ?_
 rintro en w2 ⟨u2,rfl,hv2,hb2⟩
 dsimp only at hv2
 have HVA2:=Lib.hid hv2
 have HB2:=Lib.hid (HB1.out.trans (hb2.mono HB1.out.size))
 have HM2:=Lib.hid (HM1.out.keep hb2)
 have HV2:=Lib.hid (HV1.out.keep hb2)
 have HN2:=Lib.hid (HN1.out.kept hb2)
 clear hb2 hv2 HOQ HM1 HV1 HN1 HB1
 by_cases hae:ae=0
 ·subst hae
  obtain ⟨k0,k1,k2,k3,k4,k5,k6,k7,k8⟩:=HN2.out
  go_wp2_with fail
  clear k0 k1 k2 k3 k4 k5 k6 k7 k8
  refine (HPT.out _ HM2.out HV2.out).mono ?_
  rintro en w3 ⟨u3,o3,rfl,hv3,ho3,hb3⟩
  have HV3:=Lib.hid hv3
  have HO3:=Lib.hid ho3
  have HB3:=Lib.hid (HB2.out.trans (hb3.mono HB2.out.size))
  have HM3:=Lib.hid (HM2.out.keep hb3)
  have HVA3:=Lib.hid (HVA2.out.keep hb3)
  have HN3:=Lib.hid (HN2.out.kept hb3)
  clear hb3 hv3 ho3 HPT HM2 HV2 HN2 HB2 HVA2
  have HAD:=Lib.hid (Fa.add_many o3 u2 (othF M 0 L) A w3 HO3.out HVA3.out HRZ.out HOZ.out HOL.out)
  have hst:ofL (othF M 0 L++A)=S:=by rw [←HSS.out];unfold bringP;rw [HAA.out];simp [restF,othF]
  rw [hst] at HAD
  clear hst HM3 HN3 HVA3 HV3 HO3
  go_wp2_with fail
  refine HAD.out.mono ?_
  rintro en w4 ⟨u4,rfl,hv4,hb4⟩
  have HV4:=Lib.hid hv4
  have HB4:=Lib.hid (HB3.out.trans (hb4.mono HB3.out.size))
  clear hv4 hb4
  go_wp2
  go_ret2
  exact ⟨u4,rfl,HV4.out,HB4.out⟩
 ·have hae1:(ae != 0)=true:=by simpa using hae
  have HS2:Hid (S=([],ae)):=Lib.hid (by
   rw [←HSS.out]
   unfold bringP
   rw [HAA.out]
   simp [hae])
  clear hae
  go_wp2
  go_ret2
  exact ⟨.slice none 0 0,by rw [HS2.out];rfl,by rw [HS2.out];exact ElsV.nil _,HB2.out⟩
end Go.Proofs.YtfhhihamndbcnaaGreatDoor.Cy
end
