/- LexJoin LexBackPlain CentNum ChartWordsSame CentText LexRwords RangeTold Open ElsOpen -/
import Derived.Deep.Fields
import Derived.Deep.LoopGhost
import Derived.Deep.QuietTactic
import Derived.Deep.RegionLaw
import Derived.Deep.SlicePairs
import Derived.Deep.Slices
import Derived.Deep.Strs
import Derived.Handy
import Derived.LaidMore
import Derived.Laws.Slices
import Derived.Lib.ItoaNum
import Derived.Lib.LaidTab
import Derived.Lib.ParseIntBTie
import Derived.LoopTactic
import Derived.Maps.AppendAt
import Derived.OpenShut
import Derived.OwnWalk
import Derived.ProofKit
import Derived.RangeFuncNested
import Derived.Shelf.Strings.OnBuilder
import Derived.Stop.Joined
import Derived.Stop.LaidErr
import Derived.Test.YtfhhihamndbcnaaGreatDoorR03
import Derived.Test.YtfhhihamndbcnaaGreatDoorR04
import Derived.Test.YtfhhihamndbcnaaGreatDoorR05
section
namespace Go.Proofs.YtfhhihamndbcnaaGreatDoor
open Go.RowKit
def lineL (ws:List ByteArray):List UInt8:=Lib.join (ws.map (·.data.toList)) [32]
end Go.Proofs.YtfhhihamndbcnaaGreatDoor
end
section
namespace Go.Proofs.YtfhhihamndbcnaaGreatDoor
def rwB (c:UInt8):Bool:=decide (33≤c.toNat∧c.toNat≤126∧c.toNat≠35)
def rightL (l:List UInt8):Bool:=decide (l≠[]) && l.all rwB
def openF (ws:List (List UInt8)) (r:List UInt8):List (List UInt8):=match ws.getLast? with
 | none=>fieldsGo [] r
 | some x=>ws.dropLast++fieldsGo x r
theorem openF_nil (r:List UInt8):openF [] r=fieldsGo [] r:=rfl
theorem openF_snoc (ws:List (List UInt8)) (x r:List UInt8):openF (ws++[x]) r=ws++fieldsGo x r:=by simp [openF]
structure PartOf (U:List UInt8) (ws:List (List UInt8)):Prop where
 ok:okL U=true
 n10:(10:UInt8) ∉ U
 n35:(35:UInt8) ∉ U
 ne:∀ x∈ws,x≠[]
 fl:∀ r,fieldsGo [] (U++r)=openF ws r
structure GapPart (U:List UInt8) (ws:List (List UInt8)):Prop where
 ok:okL U=true
 n10:(10:UInt8) ∉ U
 n35:(35:UInt8) ∉ U
 ne:∀ x∈ws,x≠[]
 fl:∀ r,fieldsGo [] (U++r)=ws++fieldsGo [] r
theorem okL_add (a b:List UInt8):okL (a++b)=(okL a && okL b):=by simp [okL]
theorem gap_facts {g:List UInt8} (h:g.all gapB=true):okL g=true∧(10:UInt8) ∉ g∧(35:UInt8) ∉ g:=by
 have h1:=List.all_eq_true.1 h
 refine ⟨List.all_eq_true.2 fun c hc=>?_,fun hm=>?_,fun hm=>?_⟩
 ·have:=h1 c hc
  unfold gapB at this
  rw [Bool.or_eq_true,beq_iff_eq,beq_iff_eq] at this
  rcases this with rfl | rfl <;> decide
 ·have:=h1 _ hm;revert this;decide
 ·have:=h1 _ hm;revert this;decide
theorem right_facts {x:List UInt8} (h:rightL x=true):x≠[]∧okL x=true∧(10:UInt8) ∉ x∧(35:UInt8) ∉ x∧x.all (fun c=>!gapB c)=true:=by
 unfold rightL at h
 rw [Bool.and_eq_true] at h
 have h0:=of_decide_eq_true h.1
 have h1:=List.all_eq_true.1 h.2
 refine ⟨h0,List.all_eq_true.2 fun c hc=>?_,fun hm=>?_,fun hm=>?_,List.all_eq_true.2 fun c hc=>?_⟩
 ·have:=of_decide_eq_true (h1 c hc)
  unfold okB
  rw [Bool.or_eq_true,Bool.and_eq_true]
  exact .inr ⟨decide_eq_true (by omega),decide_eq_true (by omega)⟩
 ·have:=h1 _ hm;revert this;decide
 ·have:=h1 _ hm;revert this;decide
 ·have:=of_decide_eq_true (h1 c hc)
  have h9:c≠9:=fun e=>by subst e;revert this;decide
  have h32:c≠32:=fun e=>by subst e;revert this;decide
  simp [gapB,h9,h32]
theorem part_start {g:List UInt8} (h:g.all gapB=true):PartOf g []:=by
 obtain ⟨h1,h2,h3⟩:=gap_facts h
 exact ⟨h1,h2,h3,(fun x hx=>by cases hx),fun r=>by rw [fieldsGo_gap0 g r h,openF_nil]⟩
theorem PartOf.gap0 {U:List UInt8} (h:PartOf U []):GapPart U []:=⟨h.ok,h.n10,h.n35,h.ne,fun r=>by rw [h.fl,openF_nil];rfl⟩
theorem PartOf.gap {U g:List UInt8} {ws:List (List UInt8)} (h:PartOf U ws) (hw:ws≠[]) (hg:g.all gapB=true) (hg0:g≠[]):GapPart (U++g) ws:=by
 obtain ⟨h1,h2,h3⟩:=gap_facts hg
 refine ⟨by rw [okL_add,h.ok,h1];rfl,by simp [h.n10,h2],by simp [h.n35,h3],h.ne,fun r=>?_⟩
 obtain ⟨ws',x,rfl⟩:∃ ws' x,ws=ws'++[x]:=⟨ws.dropLast,ws.getLast hw,(List.dropLast_concat_getLast hw).symm⟩
 rw [List.append_assoc,h.fl,openF_snoc,fieldsGo_gap x g r hg0 (h.ne x (by simp)) hg]
 simp
theorem GapPart.word {U x:List UInt8} {ws:List (List UInt8)} (h:GapPart U ws) (hx:rightL x=true):PartOf (U++x) (ws++[x]):=by
 obtain ⟨h0,h1,h2,h3,h4⟩:=right_facts hx
 refine ⟨by rw [okL_add,h.ok,h1];rfl,by simp [h.n10,h2],by simp [h.n35,h3],fun y hy=>?_,fun r=>?_⟩
 ·rcases List.mem_append.1 hy with hy | hy
  ·exact h.ne y hy
  ·simp at hy;subst hy;exact h0
 ·rw [List.append_assoc,h.fl,fieldsGo_word [] x r h4,openF_snoc];rfl
theorem PartOf.closed {U:List UInt8} {ws:List (List UInt8)} (h:PartOf U ws):fieldsGo [] U=ws∧fieldsGo [] (U++[32])=ws:=by
 by_cases hw:ws=[]
 ·subst hw
  have h1:=h.fl []
  have h2:=h.fl [32]
  rw [List.append_nil] at h1
  rw [h1,h2]
  exact ⟨rfl,rfl⟩
 ·obtain ⟨ws',x,rfl⟩:∃ ws' x,ws=ws'++[x]:=⟨ws.dropLast,ws.getLast hw,(List.dropLast_concat_getLast hw).symm⟩
  have h0:=h.ne x (by simp)
  have h1:=h.fl []
  have h2:=h.fl [32]
  rw [List.append_nil] at h1
  rw [h1,h2,openF_snoc,openF_snoc]
  have e1:fieldsGo x []=[x]:=by simp [fieldsGo,h0]
  have e2:fieldsGo x [32]=[x]:=by simp [fieldsGo,h0,gapB]
  rw [e1,e2]
  exact ⟨rfl,rfl⟩
def Rem (r:List UInt8):Prop:=r=[]∨r=[32,35,32,97,32,114,101,109,97,114,107]∨r=[35]
def End (e:List UInt8):Prop:=e=[10]∨e=[10,10]∨e=[10,35,10]
theorem rem_words {U r:List UInt8} {ws:List (List UInt8)} (h:PartOf U ws) (hr:Rem r):wordsL (U++r)=ws∧okL (U++r)=true∧(10:UInt8) ∉ U++r:=by
 obtain ⟨c1,c2⟩:=h.closed
 unfold wordsL
 rcases hr with rfl | rfl | rfl
 ·rw [List.append_nil]
  exact ⟨by rw [said_none U h.n35];exact c1,h.ok,h.n10⟩
 ·refine ⟨?_,by rw [okL_add,h.ok];decide,by simp [h.n10]⟩
  have e:U++[32,35,32,97,32,114,101,109,97,114,107]=(U++[32])++35::[32,97,32,114,101,109,97,114,107]:=by simp
  rw [e,said_mark (U++[32]) _ (by simp [h.n35])]
  exact c2
 ·refine ⟨?_,by rw [okL_add,h.ok];decide,by simp [h.n10]⟩
  rw [said_mark U [] h.n35]
  exact c1
def lineOf (n:Nat) (ws:List (List UInt8)):List (Nat × List (List UInt8)):=if ws=[] then [] else [(n,ws)]
theorem numP_lineOf (n:Nat) (x:List UInt8) (r:List (Nat × List UInt8)):numP ((n,x)::r)=lineOf n (wordsL x)++numP r:=by simp [numP,lineOf]
theorem block_lines {U r e:List UInt8} {ws:List (List UInt8)} (h:PartOf U ws) (hr:Rem r) (he:End e) :
 okL (U++r++e)=true∧∀ t n,∃ m,n < m∧numP (enumL n (linesGo [] (U++r++e++t)))=lineOf n ws++numP (enumL m (linesGo [] t)):=by
 obtain ⟨h1,h2,h3⟩:=rem_words h hr
 have w0:wordsL []=[]:=rfl
 have w1:wordsL [35]=[]:=rfl
 have l0:∀ n,lineOf n []=[]:=fun n=>rfl
 refine ⟨by rw [okL_add,h2];rcases he with rfl | rfl | rfl <;> decide,fun t n=>?_⟩
 rcases he with rfl | rfl | rfl
 ·refine ⟨n+1,by omega,?_⟩
  rw [show U++r++[10]++t=(U++r)++10::t by simp,linesGo_cut _ _ h3]
  simp only [enumL]
  rw [numP_lineOf,h1]
 ·refine ⟨n+1+1,by omega,?_⟩
  rw [show U++r++[10,10]++t=(U++r)++10::([]++10::t) by simp,linesGo_cut _ _ h3,linesGo_cut [] t (by simp)]
  simp only [enumL]
  rw [numP_lineOf,numP_lineOf,h1,w0,l0]
  simp
 ·refine ⟨n+1+1,by omega,?_⟩
  rw [show U++r++[10,35,10]++t=(U++r)++10::([35]++10::t) by simp,linesGo_cut _ _ h3,linesGo_cut [35] t (by decide)]
  simp only [enumL]
  rw [numP_lineOf,numP_lineOf,h1,w1,l0]
  simp
def Inc (n:Nat):List (Nat × List (List UInt8))→Nat→Prop
 | [],m=>n≤m
 | x::r,m=>n≤x.1∧Inc (x.1+1) r m
theorem Inc.more {n m m':Nat} {L:List (Nat × List (List UInt8))} (h:Inc n L m) (hm:m≤m'):Inc n L m':=by
 induction L generalizing n with
 | nil=>exact Nat.le_trans h hm
 | cons x r ih=>exact ⟨h.1,ih h.2⟩
theorem Inc.snoc {n m q m':Nat} {L:List (Nat × List (List UInt8))} (h:Inc n L m) (hq:m≤q) (hm:q < m') (ws:List (List UInt8)):Inc n (L++[(q,ws)]) m':=by
 induction L generalizing n with
 | nil=>exact ⟨Nat.le_trans h hq,hm⟩
 | cons x r ih=>exact ⟨h.1,ih h.2⟩
def Blocks (T:List UInt8) (out:List (List (List UInt8))):Prop :=
 okL T=true∧∀ t n,∃ m NL,numP (enumL n (linesGo [] (T++t)))=NL++numP (enumL m (linesGo [] t))∧NL.map (·.2)=out∧Inc n NL m
theorem blocks_nil:Blocks [] []:=⟨rfl,fun _ n=>⟨n,[],rfl,rfl,Nat.le_refl n⟩⟩
theorem Blocks.snoc {T U r e:List UInt8} {out:List (List (List UInt8))} {ws:List (List UInt8)} (h:Blocks T out) (hU:PartOf U ws) (hr:Rem r) (he:End e) :
 Blocks (T++(U++r++e)) (out++if ws=[] then [] else [ws]):=by
 obtain ⟨o1,f1⟩:=block_lines hU hr he
 refine ⟨by rw [okL_add,h.1,o1];rfl,fun t n=>?_⟩
 obtain ⟨m,NL,e1,e2,e3⟩:=h.2 (U++r++e++t) n
 obtain ⟨m',hm,e4⟩:=f1 t m
 refine ⟨m',NL++lineOf m ws,?_,?_,?_⟩
 ·rw [show T++(U++r++e)++t=T++(U++r++e++t) by simp,e1,e4];simp
 ·unfold lineOf
  rw [List.map_append,e2]
  split <;> simp_all
 ·unfold lineOf
  split
  ·rw [List.append_nil];exact e3.more (by omega)
  ·exact e3.snoc (Nat.le_refl _) hm ws
theorem Blocks.lines {T:List UInt8} {out:List (List (List UInt8))} (h:Blocks T out):∃ m,(linesL T).map (·.2)=out∧Inc 1 (linesL T) m:=by
 obtain ⟨m,NL,e1,e2,e3⟩:=h.2 [] 1
 have e0:numP (enumL m (linesGo [] []))=[]:=rfl
 rw [List.append_nil,e0,List.append_nil] at e1
 refine ⟨m,?_,?_⟩
 ·unfold linesL;rw [e1];exact e2
 ·unfold linesL;rw [e1];exact e3
end Go.Proofs.YtfhhihamndbcnaaGreatDoor
end
section
namespace Go.Proofs.YtfhhihamndbcnaaGreatDoor
open Go.Lib (decDigits itoa nDigits parseIntB parseUintB parseMag parseUint10)
def dig (c:UInt8):Bool:=decide (48≤c.toNat) && decide (c.toNat≤57)
def digs (l:List UInt8):Bool:=l.all dig
def plainNum:List UInt8→Bool
 | []=>false
 | c::r=>(c != 48) && digs (c::r)
def whole (l:List UInt8):Bool :=
 match l with
 | 45::r=>plainNum r
 | l=>(l==[48]) || plainNum l
def num (n:Nat) (l:List UInt8):Nat:=l.foldl (fun a c=>a * 10+(c.toNat - 48)) n
def val (l:List UInt8):Int :=
 match l with
 | 45::r=>-((num 0 r:Nat):Int)
 | l=>((num 0 l:Nat):Int)
def parseV (l:List UInt8):Int:=if whole l=true then (if fit (val l)=true then val l else 0) else 0
def parseE (l:List UInt8):Int:=if whole l=true then (if fit (val l)=true then 0 else 2) else 5
theorem num_cons (n:Nat) (l:List UInt8) (c:UInt8):num n (c::l)=num (n * 10+(c.toNat - 48)) l:=by simp only [num,List.foldl_cons]
theorem num_ge (l:List UInt8):∀ n,n≤num n l:=by
 induction l with
 | nil=>intro n;exact Nat.le_refl _
 | cons c r ih=>intro n;rw [num_cons];exact Nat.le_trans (by omega) (ih _)
theorem digs_snoc (l:List UInt8) (c:UInt8):digs (l++[c])=(digs l && dig c):=by simp [digs]
theorem dig_iff (c:UInt8):dig c=true ↔ 48≤c.toNat∧c.toNat≤57:=by simp [dig]
theorem digs_cons (l:List UInt8) (c:UInt8):digs (c::l)=(dig c && digs l):=by simp [digs]
theorem parse_digs (l:List UInt8):∀ n,n < 18446744073709551616→digs l=true→parseUint10 n l=if num n l < 18446744073709551616 then .ok (num n l) else .range:=by
 induction l with
 | nil=>intro n hn _;simp [parseUint10,num,hn]
 | cons c r ih =>
   intro n hn hd
   rw [digs_cons,Bool.and_eq_true] at hd
   obtain ⟨hc,hr⟩:=hd
   rw [dig_iff] at hc
   have hg:=num_ge r (n * 10+(c.toNat - 48))
   rw [num_cons]
   simp only [parseUint10,if_pos hc]
   by_cases h1:1844674407370955162≤n
   ·rw [if_pos h1,if_neg (by omega)]
   ·rw [if_neg h1]
    by_cases h2:18446744073709551616≤n * 10+(c.toNat - 48)
    ·rw [if_pos h2,if_neg (by omega)]
    ·rw [if_neg h2,ih _ (by omega) hr]
theorem plainNum_cons {l:List UInt8} (h:plainNum l=true):∃ c r,l=c::r∧c≠48∧digs (c::r)=true:=by
 cases l with
 | nil=>cases h
 | cons c r =>
   simp only [plainNum,Bool.and_eq_true,bne_iff_ne,ne_eq] at h
   exact ⟨c,r,rfl,h.1,h.2⟩
theorem whole_minus (r:List UInt8):whole (45::r)=plainNum r:=rfl
theorem whole_other {c:UInt8} (r:List UInt8) (h:c≠45):whole (c::r)=((c::r==[48]) || plainNum (c::r)):=by
 unfold whole;split
 ·rename_i e;injection e with e _;exact absurd e h
 ·rfl
theorem val_minus (r:List UInt8):val (45::r)=-((num 0 r:Nat):Int):=rfl
theorem val_other {c:UInt8} (r:List UInt8) (h:c≠45):val (c::r)=((num 0 (c::r):Nat):Int):=by
 unfold val;split
 ·rename_i e;injection e with e _;exact absurd e h
 ·rfl
theorem toNat_ne {c d:UInt8} (h:c≠d):c.toNat≠d.toNat:=fun e=>h (UInt8.toNat_inj.1 e)
theorem whole_digs {c:UInt8} {r:List UInt8} (h:c≠45) (hw:whole (c::r)=true):digs (c::r)=true:=by
 rw [whole_other r h,Bool.or_eq_true] at hw
 rcases hw with hw | hw
 ·have e:c::r=[48]:=by simpa using hw
  rw [e];decide
 ·obtain ⟨c',r',e,_,hd⟩:=plainNum_cons hw
  rw [e];exact hd
theorem parseInt_whole {l:List UInt8} (h:whole l=true):parseIntB 64 l=if fit (val l)=true then .ok (val l) else .range:=by
 cases l with
 | nil=>cases h
 | cons c r =>
   by_cases h45:c=45
   ·subst h45
    rw [whole_minus] at h
    obtain ⟨c',r',rfl,_,hd⟩:=plainNum_cons h
    rw [Lib.parseIntB_minus,val_minus,Lib.parseUintB_64]
    simp only [parseMag]
    rw [if_neg (by simp),parse_digs _ 0 (by omega) hd]
    generalize num 0 (c'::r')=u
    have e63:(2:Nat) ^ (64 - 1)=9223372036854775808:=by decide
    rw [e63]
    by_cases hu:u < 18446744073709551616
    ·rw [if_pos hu]
     simp only [Lib.signedC]
     by_cases h2:9223372036854775808 < u
     ·rw [if_pos h2,if_neg (by rw [fit_iff];omega)]
     ·rw [if_neg h2,if_pos (by rw [fit_iff];omega)]
    ·rw [if_neg hu]
     simp only [Lib.signedC]
     rw [if_neg (by rw [fit_iff];omega)]
   ·have hd:=whole_digs h45 h
    have hc:48≤c.toNat∧c.toNat≤57:=by
     rw [digs_cons,Bool.and_eq_true,dig_iff] at hd;exact hd.1
    rw [Lib.parseIntB_plain 64 c r (by omega) (by omega),val_other r h45,Lib.parseUintB_64]
    simp only [parseMag]
    rw [if_neg (by simp),parse_digs _ 0 (by omega) hd]
    generalize num 0 (c::r)=u
    have e63:(2:Nat) ^ (64 - 1)=9223372036854775808:=by decide
    rw [e63]
    by_cases hu:u < 18446744073709551616
    ·rw [if_pos hu]
     simp only [Lib.signlessC]
     by_cases h2:9223372036854775808≤u
     ·rw [if_pos h2,if_neg (by rw [fit_iff];omega)]
     ·rw [if_neg h2,if_pos (by rw [fit_iff];omega)]
    ·rw [if_neg hu]
     simp only [Lib.signlessC]
     rw [if_neg (by rw [fit_iff];omega)]
theorem fit_parseV (l:List UInt8):fit (parseV l)=true:=by
 unfold parseV;split
 ·split
  ·assumption
  ·decide
 ·decide
end Go.Proofs.YtfhhihamndbcnaaGreatDoor
end
section
namespace Go.Proofs.YtfhhihamndbcnaaGreatDoor
open Go.RowKit
theorem cellD (w:World) (q:Nat) (p:Addr):(w.drewN q).cell? p=w.cell? p:=rfl
def sameW (us vs:List ByteArray):Bool:=decide (us=vs)
theorem sameW_len {us vs:List ByteArray} (h:us.length≠vs.length):sameW us vs=false:=decide_eq_false fun e=>h (by rw [e])
theorem sameW_no {us vs:List ByteArray} {i:Nat} {x y:ByteArray} (hx:us[i]?=some x) (hy:vs[i]?=some y) (h:x≠y):sameW us vs=false :=
 decide_eq_false fun e=>h (by rw [e,hy] at hx;exact (Option.some.inj hx).symm)
theorem sameW_yes {us vs:List ByteArray} {n:Nat} (hu:us.length=n) (hv:vs.length=n) (h:∀ (j:Nat) (x y:ByteArray),j < n→us[j]?=some x→vs[j]?=some y→x=y):sameW us vs=true :=
 decide_eq_true (by
  apply List.ext_getElem?
  intro j
  by_cases hj:j < n
  ·rw [List.getElem?_eq_getElem (by omega),List.getElem?_eq_getElem (by omega)]
   rw [h j _ _ hj (List.getElem?_eq_getElem (by omega)) (List.getElem?_eq_getElem (by omega))]
  ·rw [List.getElem?_eq_none (by omega),List.getElem?_eq_none (by omega)])
set_option maxRecDepth 100000 in
set_option maxHeartbeats 2000000 in
theorem sameWords_any (v u:Value) (vs us:List ByteArray) (w:World) (h:StrsV w v vs) (h':StrsV w u us) :
 Calls Tryz.prog 123 #[v,u] w fun e w'=>e=.returned (.bool (sameW vs us))∧∃ q,w'=w.drewN q:=by
 obtain ⟨a,c,rfl,_,hm,hc⟩:=h
 obtain ⟨a',c',rfl,_,hm',hc'⟩:=h'
 obtain ⟨n,hn⟩:∃ n,vs.length=n:=⟨_,rfl⟩
 obtain ⟨n',hn'⟩:∃ n,us.length=n:=⟨_,rfl⟩
 obtain ⟨r,hr⟩:∃ r,sameW vs us=r:=⟨_,rfl⟩
 rw [hn] at hm ⊢
 rw [hn'] at hm' ⊢
 rw [hr]
 have H:=Lib.hid hc
 have H':=Lib.hid hc'
 have HN:=Lib.hid hn
 have HN':=Lib.hid hn'
 have HR:=Lib.hid hr
 unfold maxLen at hm hm'
 clear hc hc' hn hn' hr
 by_cases hne:n=n'
 ·subst hne
  have hnn:((n:Int) != (n:Int))=false:=by simp
  go_enter Tryz.func123,Tryz.ntmps123
  go_wp2
  go_loopg [5] n (fun kx vi wr=>∃ i q:Nat,vi=.int .i64 (i:Int)∧i≤n∧n - i≤kx∧Hid (wr=w.drewN q)∧Hid (∀ (j:Nat) (x y:ByteArray),j < i→vs[j]?=some x→us[j]?=some y→x=y))
  case atStart=>exact ⟨0,0,rfl,Nat.zero_le _,by omega,rfl,Lib.hid fun j x y hj=>absurd hj (Nat.not_lt_zero _)⟩
  case round =>
   obtain ⟨i,q,rfl,hin,hkx,HW,HA⟩:=hrel
   by_cases hlt:i < n
   ·obtain ⟨x,hx⟩:∃ y,vs[i]?=some y:=⟨_,List.getElem?_eq_getElem (by rw [HN.out];exact hlt)⟩
    obtain ⟨y,hy⟩:∃ y,us[i]?=some y:=⟨_,List.getElem?_eq_getElem (by rw [HN'.out];exact hlt)⟩
    obtain ⟨b1,o1,rfl,d1⟩:=H.out i _ hx
    obtain ⟨b2,o2,rfl,d2⟩:=H'.out i _ hy
    have HX:=Lib.hid hx
    have HY:=Lib.hid hy
    clear hx hy
    rw [←cellD w q,←HW.out] at d1 d2
    have hltz:(i:Int) < (n:Int):=by omega
    cases hxy:(x.toList==y.toList) with
    | true =>
      have HXE:=Lib.hid ((Lib.bytes_beq_iff x y).1 hxy)
      go_wp2_with fail
      go_big_quiet (fail)
      clear d1 d2 hxy
      go_wp2
      go_roundg (n - (i+1))
      case measure=>omega
      case rel=>exact ⟨i+1,q+nq,by first | rfl | go_num,by omega,Nat.le_refl _,Lib.hid (by rw [HW.out,World.drewN_drewN]),Lib.hid fun j z t hj hz ht=>by
       rcases Nat.lt_or_ge j i with h | h
       ·exact HA.out j z t h hz ht
       ·obtain rfl:j=i:=by omega
        rw [HX.out] at hz;rw [HY.out] at ht
        cases hz;cases ht;exact HXE.out⟩
    | false =>
      have HXE:=Lib.hid ((Lib.bytes_beq_false_iff x y).1 hxy)
      go_wp2_with fail
      go_big_quiet (fail)
      clear d1 d2 hxy
      go_wp2
      go_ret
      exact ⟨ret_bool (by rw [←HR.out,sameW_no HX.out HY.out HXE.out]),q+nq,by rw [HW.out,World.drewN_drewN]⟩
   ·have hltz:¬ (i:Int) < (n:Int):=by omega
    go_wp2
    go_ret
    exact ⟨ret_bool (by rw [←HR.out,sameW_yes HN.out HN'.out fun j x y hj=>HA.out j x y (by omega)]),q,HW.out⟩
 ·have hnn:((n:Int) != (n':Int))=true:=by simp;omega
  have HNE:=Lib.hid hne
  clear hne
  go_enter Tryz.func123,Tryz.ntmps123
  go_wp2
  go_ret
  exact ⟨ret_bool (by rw [←HR.out,sameW_len (by rw [HN.out,HN'.out];exact HNE.out)]),0,rfl⟩
set_option maxRecDepth 100000 in
set_option maxHeartbeats 2000000 in
theorem equal_any (v u:Value) (vs us:List ByteArray) (w:World) (h:StrsV w v vs) (h':StrsV w u us) :
 Calls Tryz.prog 142 #[v,u] w fun e w'=>e=.returned (.bool (sameW vs us))∧∃ q,w'=w.drewN q:=by
 obtain ⟨a,c,rfl,_,hm,hc⟩:=h
 obtain ⟨a',c',rfl,_,hm',hc'⟩:=h'
 obtain ⟨n,hn⟩:∃ n,vs.length=n:=⟨_,rfl⟩
 obtain ⟨n',hn'⟩:∃ n,us.length=n:=⟨_,rfl⟩
 obtain ⟨r,hr⟩:∃ r,sameW vs us=r:=⟨_,rfl⟩
 rw [hn] at hm ⊢
 rw [hn'] at hm' ⊢
 rw [hr]
 have H:=Lib.hid hc
 have H':=Lib.hid hc'
 have HN:=Lib.hid hn
 have HN':=Lib.hid hn'
 have HR:=Lib.hid hr
 unfold maxLen at hm hm'
 clear hc hc' hn hn' hr
 by_cases hne:n=n'
 ·subst hne
  have hnn:((n:Int) != (n:Int))=false:=by simp
  go_enter Tryz.func142,Tryz.ntmps142
  go_wp2
  go_loopg [13] n (fun kx vi wr=>∃ i q:Nat,vi=.int .i64 (i:Int)∧i≤n∧n - i≤kx∧Hid (wr=w.drewN q)∧Hid (∀ (j:Nat) (x y:ByteArray),j < i→vs[j]?=some x→us[j]?=some y→x=y))
  case atStart=>exact ⟨0,0,rfl,Nat.zero_le _,by omega,rfl,Lib.hid fun j x y hj=>absurd hj (Nat.not_lt_zero _)⟩
  case round =>
   obtain ⟨i,q,rfl,hin,hkx,HW,HA⟩:=hrel
   by_cases hlt:i < n
   ·obtain ⟨x,hx⟩:∃ y,vs[i]?=some y:=⟨_,List.getElem?_eq_getElem (by rw [HN.out];exact hlt)⟩
    obtain ⟨y,hy⟩:∃ y,us[i]?=some y:=⟨_,List.getElem?_eq_getElem (by rw [HN'.out];exact hlt)⟩
    obtain ⟨b1,o1,rfl,d1⟩:=H.out i _ hx
    obtain ⟨b2,o2,rfl,d2⟩:=H'.out i _ hy
    have HX:=Lib.hid hx
    have HY:=Lib.hid hy
    clear hx hy
    rw [←cellD w q,←HW.out] at d1 d2
    have hltz:(i:Int) < (n:Int):=by omega
    cases hxy:(x.toList==y.toList) with
    | true =>
      have HXE:=Lib.hid ((Lib.bytes_beq_iff x y).1 hxy)
      go_wp2_with fail
      go_big_quiet (fail)
      clear d1 d2 hxy
      go_wp2
      go_roundg (n - (i+1))
      case measure=>omega
      case rel=>exact ⟨i+1,q+nq,by first | rfl | go_num,by omega,Nat.le_refl _,Lib.hid (by rw [HW.out,World.drewN_drewN]),Lib.hid fun j z t hj hz ht=>by
       rcases Nat.lt_or_ge j i with h | h
       ·exact HA.out j z t h hz ht
       ·obtain rfl:j=i:=by omega
        rw [HX.out] at hz;rw [HY.out] at ht
        cases hz;cases ht;exact HXE.out⟩
    | false =>
      have HXE:=Lib.hid ((Lib.bytes_beq_false_iff x y).1 hxy)
      go_wp2_with fail
      go_big_quiet (fail)
      clear d1 d2 hxy
      go_wp2
      go_ret
      exact ⟨ret_bool (by rw [←HR.out,sameW_no HX.out HY.out HXE.out]),q+nq,by rw [HW.out,World.drewN_drewN]⟩
   ·have hltz:¬ (i:Int) < (n:Int):=by omega
    go_wp2
    go_ret
    exact ⟨ret_bool (by rw [←HR.out,sameW_yes HN.out HN'.out fun j x y hj=>HA.out j x y (by omega)]),q,HW.out⟩
 ·have hnn:((n:Int) != (n':Int))=true:=by simp;omega
  have HNE:=Lib.hid hne
  clear hne
  go_enter Tryz.func142,Tryz.ntmps142
  go_wp2
  go_ret
  exact ⟨ret_bool (by rw [←HR.out,sameW_len (by rw [HN.out,HN'.out];exact HNE.out)]),0,rfl⟩
end Go.Proofs.YtfhhihamndbcnaaGreatDoor
end
section
namespace Go.Proofs.YtfhhihamndbcnaaGreatDoor
open Go.RowKit
theorem digs_take (s:ByteArray) (k:Nat) (h:k < s.size):digs (s.data.toList.take (k+1))=(digs (s.data.toList.take k) && dig s[k]):=by
 rw [List.take_succ_eq_append_getElem (by simpa using h),digs_snoc];rfl
theorem digs_at (l:List UInt8) (k:Nat) (h:k < l.length) (hd:digs l=true):dig l[k]=true:=by
 unfold digs at hd
 exact List.all_eq_true.1 hd _ (List.getElem_mem h)
set_option maxHeartbeats 400000 in
theorem allDigits_any (s:ByteArray) (w:World) (hs:s.size≤maxLen) :
 Calls Tryz.prog 183 #[.string s] w fun e w'=>e=.returned (.bool (digs s.data.toList))∧w=w':=by
 unfold maxLen at hs
 go_enter Tryz.func183,Tryz.ntmps183
 go_wp2
 go_loop [6] (fun i=>∃ k:Nat,k≤s.size∧i=.int .i64 k∧digs (s.data.toList.take k)=true) (fun i=>s.size - (intOf i).toNat)
 case atStart=>exact ⟨0,Nat.zero_le _,rfl,rfl⟩
 case round =>
  obtain ⟨k,hk,rfl,hd⟩:=hrel
  have HD:=Lib.hid hd
  clear hd
  by_cases hlt:k < s.size
  ·cases hc:dig s[k] with
   | true =>
     have HC:=Lib.hid hc
     obtain ⟨c1,c2⟩:=(dig_iff _).1 hc
     have c3:(48:Int)≤(s[k].toNat:Int):=by omega
     have c4:(s[k].toNat:Int)≤57:=by omega
     clear hc c1 c2
     go_wp2
     go_round
     case rel=>exact ⟨k+1,by omega,by go_num,by rw [digs_take s k hlt,HD.out,HC.out];rfl⟩
     case measure=>simp [intOf];omega
   | false =>
     have hfin:digs s.data.toList=false:=by
      cases h:digs s.data.toList with
      | false=>rfl
      | true =>
        have:=digs_at _ k (by simpa using hlt) h
        rw [←hc];exact this.symm
     have HFIN:=Lib.hid hfin
     clear hfin
     have hc':¬ (48≤s[k].toNat∧s[k].toNat≤57):=by rw [←dig_iff,hc];simp
     clear hc
     by_cases c1:48≤s[k].toNat
     ·have c3:(48:Int)≤(s[k].toNat:Int):=by omega
      have c4:(57:Int) < (s[k].toNat:Int):=by omega
      clear hc' c1
      go_wp2
      go_ret
      exact ⟨ret_bool HFIN.out.symm,rfl⟩
     ·have c3:(s[k].toNat:Int) < 48:=by omega
      clear hc' c1
      go_wp2
      go_ret
      exact ⟨ret_bool HFIN.out.symm,rfl⟩
  ·have hfin:digs s.data.toList=true:=by
    have:=HD.out
    rwa [List.take_of_length_le (by simp;omega)] at this
   have HFIN:=Lib.hid hfin
   clear hfin
   go_wp2
   go_ret
   exact ⟨ret_bool HFIN.out.symm,rfl⟩
theorem beq_lit {c:UInt8} {n:Nat} (h:c.toNat≠n):((c.toNat:Int)==(n:Int))=false:=by
 rw [beq_eq_false_iff_ne];omega
theorem bne_lit {c:UInt8} {n:Nat} (h:c.toNat≠n):((c.toNat:Int) != (n:Int))=true:=by
 rw [bne_iff_ne];omega
theorem list_ne {c d:UInt8} {r:List UInt8} (h:c≠d):((c::r)==[d])=false:=by
 rw [beq_eq_false_iff_ne];intro e;injection e with e _;exact h e
theorem list_ne2 {c d e:UInt8} {r:List UInt8}:((c::d::r)==[e])=false:=by
 rw [beq_eq_false_iff_ne];intro h;injection h with _ h;cases h
theorem extract_tail (c:UInt8) (l:List UInt8):(⟨(c::l).toArray⟩:ByteArray).extract 1 (l.length+1)=⟨l.toArray⟩:=by
 apply ByteArray.ext
 rw [ByteArray.data_extract]
 apply Array.ext'
 simp
theorem first_at (c:UInt8) (l:List UInt8) (h:0 < (⟨(c::l).toArray⟩:ByteArray).size):(⟨(c::l).toArray⟩:ByteArray)[0]=c:=rfl
theorem size_pos (c:UInt8) (l:List UInt8):0 < (⟨(c::l).toArray⟩:ByteArray).size:=by show 0 < (c::l).toArray.size;simp
set_option maxHeartbeats 400000 in
theorem isWhole_nil (w:World) :
 Calls Tryz.prog 163 #[.string ⟨#[]⟩] w fun e w'=>e=.returned (.bool (whole []))∧w=w':=by
 go_enter Tryz.func163,Tryz.ntmps163
 go_wp2
 go_ret
 exact ⟨rfl,rfl⟩
set_option maxHeartbeats 400000 in
theorem isWhole_zero (w:World) :
 Calls Tryz.prog 163 #[.string ⟨#[48]⟩] w fun e w'=>e=.returned (.bool (whole [48]))∧w=w':=by
 go_enter Tryz.func163,Tryz.ntmps163
 go_wp2
 go_ret
 exact ⟨rfl,rfl⟩
set_option maxHeartbeats 400000 in
theorem isWhole_minus (w:World) :
 Calls Tryz.prog 163 #[.string ⟨#[45]⟩] w fun e w'=>e=.returned (.bool (whole [45]))∧w=w':=by
 go_enter Tryz.func163,Tryz.ntmps163
 go_wp2
 go_ret
 exact ⟨rfl,rfl⟩
set_option maxHeartbeats 400000 in
theorem isWhole_minus0 (r:List UInt8) (w:World) (hs:r.length+2≤maxLen) :
 Calls Tryz.prog 163 #[.string ⟨(45::48::r).toArray⟩] w fun e w'=>e=.returned (.bool (whole (45::48::r)))∧w=w':=by
 unfold maxLen at hs
 have hx:=extract_tail 45 (48::r)
 rw [show (48::r).length+1=r.length+1+1 from rfl] at hx
 go_enter Tryz.func163,Tryz.ntmps163
 go_wp2
 go_ret
 exact ⟨rfl,rfl⟩
set_option maxHeartbeats 400000 in
theorem isWhole_minusd (d:UInt8) (r:List UInt8) (w:World) (hs:r.length+2≤maxLen) (hd:d≠48) :
 Calls Tryz.prog 163 #[.string ⟨(45::d::r).toArray⟩] w fun e w'=>e=.returned (.bool (whole (45::d::r)))∧w=w':=by
 have hfin:whole (45::d::r)=digs (d::r):=by rw [whole_minus];simp [plainNum,hd]
 rw [hfin]
 clear hfin
 have hm:(⟨(d::r).toArray⟩:ByteArray).size≤maxLen:=by show (d::r).toArray.size≤maxLen;simp;omega
 unfold maxLen at hs
 have h1:((d.toNat:Int) != 48)=true:=bne_lit (n:=48) (toNat_ne hd)
 have hx0:=first_at d r (size_pos d r)
 clear hd
 have hx:=extract_tail 45 (d::r)
 rw [show (d::r).length+1=r.length+1+1 from rfl] at hx
 go_enter Tryz.func163,Tryz.ntmps163
 go_wp2_with (go_at_call 183;refine (allDigits_any ⟨(d::r).toArray⟩ _ hm).mono ?_;rintro e w' ⟨rfl,rfl⟩)
 go_ret
 exact ⟨rfl,rfl⟩
set_option maxHeartbeats 400000 in
theorem isWhole_0 (d:UInt8) (r:List UInt8) (w:World) (hs:r.length+2≤maxLen) :
 Calls Tryz.prog 163 #[.string ⟨(48::d::r).toArray⟩] w fun e w'=>e=.returned (.bool (whole (48::d::r)))∧w=w':=by
 have hfin:whole (48::d::r)=false:=by rw [whole_other (d::r) (by decide),list_ne2];rfl
 rw [hfin]
 clear hfin
 unfold maxLen at hs
 have h0:((48::d::r:List UInt8)==[48])=false:=list_ne2
 go_enter Tryz.func163,Tryz.ntmps163
 go_wp2
 go_ret
 exact ⟨rfl,rfl⟩
set_option maxHeartbeats 400000 in
theorem isWhole_d (d:UInt8) (r:List UInt8) (w:World) (hs:r.length+1≤maxLen) (hd:d≠48) (hd':d≠45) :
 Calls Tryz.prog 163 #[.string ⟨(d::r).toArray⟩] w fun e w'=>e=.returned (.bool (whole (d::r)))∧w=w':=by
 have h0:((d::r:List UInt8)==[48])=false:=list_ne hd
 have hfin:whole (d::r)=digs (d::r):=by rw [whole_other r hd',h0];simp [plainNum,hd]
 rw [hfin]
 clear hfin
 have hm:(⟨(d::r).toArray⟩:ByteArray).size≤maxLen:=by show (d::r).toArray.size≤maxLen;simp;omega
 unfold maxLen at hs
 have h1:((d.toNat:Int) != 48)=true:=bne_lit (n:=48) (toNat_ne hd)
 have hx0:=first_at d r (size_pos d r)
 have h2:((d.toNat:Int)==45)=false:=beq_lit (n:=45) (toNat_ne hd')
 clear hd hd'
 go_enter Tryz.func163,Tryz.ntmps163
 go_wp2_with (go_at_call 183;refine (allDigits_any ⟨(d::r).toArray⟩ _ hm).mono ?_;rintro e w' ⟨rfl,rfl⟩)
 go_ret
 exact ⟨rfl,rfl⟩
theorem isWhole_any (s:ByteArray) (w:World) (hs:s.size≤maxLen) :
 Calls Tryz.prog 163 #[.string s] w fun e w'=>e=.returned (.bool (whole s.data.toList))∧w=w':=by
 obtain ⟨⟨l⟩⟩:=s
 have hl:l.length≤maxLen:=hs
 show Calls Tryz.prog 163 #[.string ⟨l.toArray⟩] w fun e w'=>e=.returned (.bool (whole l))∧w=w'
 match l,hl with
 | [],_=>exact isWhole_nil w
 | c::r,hl =>
   simp only [List.length_cons] at hl
   by_cases h45:c=45
   ·subst h45
    match r,hl with
    | [],_=>exact isWhole_minus w
    | d::r,hl =>
      simp only [List.length_cons] at hl
      by_cases h48:d=48
      ·subst h48;exact isWhole_minus0 r w (by omega)
      ·exact isWhole_minusd d r w (by omega) h48
   ·by_cases h48:c=48
    ·subst h48
     match r,hl with
     | [],_=>exact isWhole_zero w
     | d::r,hl =>
       simp only [List.length_cons] at hl
       exact isWhole_0 d r w (by omega)
    ·exact isWhole_d c r w (by omega) h48 h45
structure LaidC (w:World):Prop where
 tab:Lib.TabIs Tryz.prog w "internal/strconv.uint64pow10" .u64 Lib.pow10Tab
 rng:∃ tp p,w.var? Tryz.prog "strconv.ErrRange"=some #[.iface tp p]
theorem gPow:Tryz.prog.globalNamed "internal/strconv.uint64pow10"=some 5:=by kernel_rfl
theorem gRng:Tryz.prog.globalNamed "strconv.ErrRange"=some 4:=by kernel_rfl
theorem var_lt {P:Program} {w:World} {n:String} {g:Nat} {cs:Array Value} (hg:P.globalNamed n=some g) (h:w.var? P n=some cs):g < w.heap.size:=by
 unfold World.var? at h
 rw [hg] at h
 simp only [Option.bind_some] at h
 rcases Nat.lt_or_ge g w.heap.size with hlt | hge
 ·exact hlt
 ·rw [Array.getElem?_eq_none hge] at h;cases h
theorem LaidC.below {w w':World} (h:LaidC w) (hb:Below w.heap.size w w'):LaidC w':=by
 obtain ⟨tp,p,hv⟩:=h.rng
 exact ⟨var?_below hb gPow (var_lt gPow h.tab) h.tab,tp,p,var?_below hb gRng (var_lt gRng hv) hv⟩
theorem pint_ok (s:ByteArray) (w:World) (hs:s.size≤1000000) (v:Int) (h:Lib.parseIntB 64 s.data.toList=.ok v) :
 Calls Tryz.prog 164 #[.string s,.int .i64 10,.int .i64 64] w fun e w'=>e=.returned (.tuple #[.int .i64 v,.nilIface])∧Below w.heap.size w w':=by
 refine (Tryz.strconv_ParseInt_10_at64_ok s (by omega) v h w).mono ?_
 rintro e w' ⟨rfl,rfl | ⟨t,rfl⟩⟩
 ·exact ⟨rfl,Below.refl _ _⟩
 ·exact ⟨rfl,Lib.bytesWorld_below _ _ _⟩
theorem pint_over (s:ByteArray) (w:World) (hs:s.size≤1000000) (hL:LaidC w) (h:Lib.parseIntB 64 s.data.toList=.range) :
 Calls Tryz.prog 164 #[.string s,.int .i64 10,.int .i64 64] w fun e w'=>(∃ N,e=.returned (.tuple #[.int .i64 (Lib.intSat 64 s.data.toList),.iface 291 (.pointer (some ⟨N,0,none⟩))]))∧Below w.heap.size w w':=by
 obtain ⟨tp,p,hv⟩:=hL.rng
 refine (Tryz.strconv_ParseInt_10_at64_range_var s (by omega) h tp p w hv).mono ?_
 rintro e w' ⟨N,rfl,_,_,hb⟩
 exact ⟨⟨N,rfl⟩,hb⟩
set_option maxHeartbeats 400000 in
theorem cnum_long (s:ByteArray) (w:World) (hs:s.size≤1000000) (hL:LaidC w) :
 Calls Tryz.prog 135 #[.string s] w fun e w'=>e=.returned (.tuple #[.int .i64 (parseV s.data.toList),.int .i64 (parseE s.data.toList)])∧Below w.heap.size w w':=by
 have hm:s.size≤maxLen:=by unfold maxLen;omega
 cases hw:whole s.data.toList with
 | false =>
   have e1:parseV s.data.toList=0:=by simp [parseV,hw]
   have e2:parseE s.data.toList=5:=by simp [parseE,hw]
   rw [e1,e2]
   clear e1 e2 hL
   go_enter Tryz.func135,Tryz.ntmps135
   go_wp2_with (go_at_call 163;refine (isWhole_any s _ hm).mono ?_;rintro e w' ⟨rfl,rfl⟩)
   go_ret2
   exact ⟨rfl,Below.refl _ _⟩
 | true =>
   have hp:=parseInt_whole hw
   have HL:=Lib.hid hL
   clear hL
   cases hf:fit (val s.data.toList) with
   | true =>
     have e1:parseV s.data.toList=val s.data.toList:=by simp [parseV,hw,hf]
     have e2:parseE s.data.toList=0:=by simp [parseE,hw,hf]
     rw [e1,e2]
     rw [hf,if_pos rfl] at hp
     clear e1 e2 hf
     have HP:=Lib.hid hp
     clear hp
     go_enter Tryz.func135,Tryz.ntmps135
     go_wp2_with (first | (go_at_call 163;refine (isWhole_any s _ hm).mono ?_;rintro e w' ⟨rfl,rfl⟩) | (go_at_call 164;refine (pint_ok s _ hs _ HP.out).mono ?_;rintro e w' ⟨rfl,hb⟩))
     go_ret2
     exact ⟨rfl,hb⟩
   | false =>
     have e1:parseV s.data.toList=0:=by simp [parseV,hw,hf]
     have e2:parseE s.data.toList=2:=by simp [parseE,hw,hf]
     rw [e1,e2]
     rw [hf,if_neg (by decide)] at hp
     clear e1 e2 hf
     have HP:=Lib.hid hp
     clear hp
     go_enter Tryz.func135,Tryz.ntmps135
     go_wp2_with (first | (go_at_call 163;refine (isWhole_any s _ hm).mono ?_;rintro e w' ⟨rfl,rfl⟩) | (go_at_call 164;refine (pint_over s _ hs HL.out HP.out).mono ?_;rintro e w' ⟨⟨N,rfl⟩,hb⟩))
     go_ret2
     exact ⟨rfl,hb⟩
end Go.Proofs.YtfhhihamndbcnaaGreatDoor
end
section
namespace Go.Proofs.YtfhhihamndbcnaaGreatDoor
open Go.RowKit
theorem info_string:(Tryz.prog.info? 9).map (fun i=>(i.zero,i.size,i.bytes))=some (some (.string ⟨#[]⟩),1,16):=by kernel_rfl
theorem fieldsGo_snoc (cur:List UInt8) (c:UInt8) (r:List UInt8) (h:gapB c=false):fieldsGo cur (c::r)=fieldsGo (cur++[c]) r:=by simp [fieldsGo,h]
theorem fieldsGo_end (cur:List UInt8) (c:UInt8) (r:List UInt8) (h:gapB c=true) (hc:cur≠[]):fieldsGo cur (c::r)=cur::fieldsGo [] r:=by simp [fieldsGo,h,hc]
theorem fieldsGo_skip (c:UInt8) (r:List UInt8) (h:gapB c=true):fieldsGo [] (c::r)=fieldsGo [] r:=by simp [fieldsGo,h]
theorem drop_at (s:ByteArray) (k:Nat) (h:k < s.size):s.data.toList.drop k=s[k]::s.data.toList.drop (k+1):=by
 have:s[k]=s.data.toList[k]'(by rw [size_list];exact h):=by simp [ByteArray.getElem_eq_getElem_data]
 rw [this];exact List.drop_eq_getElem_cons _
theorem gapB_dec (c:UInt8):gapB c=decide (c.toNat=9∨c.toNat=32):=by
 rw [←gapR_byte];unfold gapR;rw [Bool.eq_iff_iff];simp
theorem bytes_add (t u:ByteArray):(t++u).data.toList=t.data.toList++u.data.toList:=by simp [ByteArray.data_append]
def RWordsPost (w:World) (ws:List (List UInt8)) (e:Ending) (w':World):Prop :=
 ∃ v,e=.returned v∧w'.ownsRow w.heap.size 9 1 v (ws.map mkB).length ((ws.map mkB).map Value.string)∧Below w.heap.size w w'
def RWordsAt (w:World) (l:List UInt8) (s3 s4 s5:Value) (wr:World):Prop :=
 ∃ (k:Nat) (t:ByteArray) (out:List (List UInt8)),k≤l.length∧s5=.int .i64 (k:Int)∧s4=.string t∧t.size≤k∧out.length≤k∧wr.ownsRow w.heap.size 9 1 s3 (out.map mkB).length ((out.map mkB).map Value.string) ∧
   wordsL l=out++fieldsGo t.data.toList (said (l.drop k))∧Below w.heap.size w wr
set_option maxRecDepth 100000 in
set_option maxHeartbeats 2000000 in
theorem lrwords_any (s:ByteArray) (w:World) (hs:s.size≤30000) :
 Calls Tryz.prog 85 #[.string s] w (RWordsPost w (wordsL s.data.toList)):=by
 obtain ⟨i0,hi,hz0,hz1,hz2⟩:=info_parts info_string
 have HI:=Lib.hid (And.intro hi (And.intro hz0 (And.intro hz1 hz2)))
 clear hi hz0 hz1 hz2
 have HSL:=Lib.hid (size_list s)
 obtain ⟨WL,hWL⟩:∃ WL,wordsL s.data.toList=WL:=⟨_,rfl⟩
 rw [hWL]
 have HWL:=Lib.hid hWL
 clear hWL
 go_enter Tryz.func85,Tryz.ntmps85
 go_wp2
 go_loopw [3,4,5] (fun s3 s4 s5 wr=>RWordsAt w s.data.toList s3 s4 s5 wr) (fun _ _ s5 _=>s.size - (intOf s5).toNat)
 case atStart=>exact ⟨0,⟨#[]⟩,[],Nat.zero_le _,rfl,rfl,Nat.le_refl _,Nat.le_refl _,World.ownsRow_nil _ _ _ _,rfl,Below.refl _ _⟩
 case round =>
  obtain ⟨k,t,out,hk,rfl,rfl,htk,hok,hown,hW,hnx⟩:=hrel
  rw [HSL.out] at hk
  have HW:=Lib.hid hW
  clear hW
  have hsz:=hnx.size
  by_cases hlt:k < s.size
  ·have hd:=drop_at s k hlt
   have hcb:s[k].toNat < 256:=UInt8.toNat_lt _
   by_cases h35:s[k].toNat=35
   ·have h35b:((s[k].toNat:Int) != 35)=false:=by rw [bne_eq_false_iff_eq];omega
    have HSD:Hid (said (s.data.toList.drop k)=[]):=Lib.hid (by
     rw [hd,said,if_pos (UInt8.toNat_inj.1 h35)])
    clear hd h35
    by_cases hte:t.data.toList=[]
    ·obtain rfl:t=⟨#[]⟩:=by rw [←mkB_list t,hte];rfl
     have HN:Hid (WL=out):=Lib.hid (by rw [←HWL.out,HW.out,HSD.out];simp [fieldsGo])
     clear hte
     go_wp2
     go_ret
     exact ⟨_,rfl,by rw [HN.out];exact hown,hnx⟩
    ·have HN:Hid (WL=out++[t.data.toList]):=Lib.hid (by rw [←HWL.out,HW.out,HSD.out];simp [fieldsGo,hte])
     have ht1:(!t.toList.isEmpty)=true:=by
      rw [ByteArray.toList_eq]
      cases hh:t.data.toList with
      | nil=>exact absurd hh hte
      | cons x r=>rfl
     clear hte
     go_wp2_with (at_builtin;refine wpList_append_own _ rfl _ _ 102 rfl w.heap.size 9 i0 (.string ⟨#[]⟩) 1 16 Tryz.underlying102 HI.out.1 HI.out.2.1 HI.out.2.2.1 HI.out.2.2.2 rfl (by decide) _ _ _ rfl (hown.alloc _) ⟨wr.heap.size,0,none⟩ 1 1 [.string t] rfl rfl (cell_one_new _ _ _) (by intro u hu;simp at hu;subst hu;rfl) (by rw [List.length_map];unfold maxLen;omega) (by rw [List.length_map];omega) (by simp;omega) ?_;intro v' w1 hown' hgrow _)
     go_ret
     exact ⟨_,rfl,by rw [HN.out];rw [List.map_append,List.map_append,List.length_append];simpa [mkB_list] using hown',below_grown (hnx.alloc hsz _) (by simp;omega) (hown.alloc _) hgrow⟩
   ·have h35b:((s[k].toNat:Int) != 35)=true:=by rw [bne_iff_ne];omega
    have HSD:Hid (said (s.data.toList.drop k)=s[k]::said (s.data.toList.drop (k+1))):=Lib.hid (by
     rw [hd,said,if_neg (fun e=>h35 (by rw [e];rfl))])
    have hgd:=gapB_dec s[k]
    clear hd
    by_cases h9:s[k].toNat=9
    ·have HG:Hid (gapB s[k]=true):=Lib.hid (by rw [hgd];exact decide_eq_true (.inl h9))
     have n9:((s[k].toNat:Int)==9)=true:=by rw [beq_iff_eq];omega
     clear hgd h9 h35
     by_cases hte:t.data.toList=[]
     ·obtain rfl:t=⟨#[]⟩:=by rw [←mkB_list t,hte];rfl
      have HN:Hid (WL=out++fieldsGo [] (said (s.data.toList.drop (k+1)))):=Lib.hid (by rw [←HWL.out,HW.out,HSD.out,show (ByteArray.mk #[]).data.toList=[] from rfl,fieldsGo_skip _ _ HG.out])
      clear hte
      go_wp2
      go_roundw
      case rel=>exact ⟨k+1,⟨#[]⟩,out,by rw [HSL.out];omega,by go_num,rfl,Nat.zero_le _,by omega,hown,by rw [HWL.out];exact HN.out,hnx⟩
      case measure=>simp [intOf];omega
     ·have HN:Hid (WL=(out++[t.data.toList])++fieldsGo [] (said (s.data.toList.drop (k+1)))):=Lib.hid (by rw [←HWL.out,HW.out,HSD.out,fieldsGo_end _ _ _ HG.out hte];simp)
      have ht1:(!t.toList.isEmpty)=true:=by
       rw [ByteArray.toList_eq]
       cases hh:t.data.toList with
       | nil=>exact absurd hh hte
       | cons x r=>rfl
      clear hte
      go_wp2_with (at_builtin;refine wpList_append_own _ rfl _ _ 102 rfl w.heap.size 9 i0 (.string ⟨#[]⟩) 1 16 Tryz.underlying102 HI.out.1 HI.out.2.1 HI.out.2.2.1 HI.out.2.2.2 rfl (by decide) _ _ _ rfl (hown.alloc _) ⟨wr.heap.size,0,none⟩ 1 1 [.string t] rfl rfl (cell_one_new _ _ _) (by intro u hu;simp at hu;subst hu;rfl) (by rw [List.length_map];unfold maxLen;omega) (by rw [List.length_map];omega) (by simp;omega) ?_;intro v' w1 hown' hgrow _)
      go_roundw
      case rel=>exact ⟨k+1,⟨#[]⟩,out++[t.data.toList],by rw [HSL.out];omega,by go_num,rfl,Nat.zero_le _,by simp;omega,by rw [List.map_append,List.map_append,List.length_append];simpa [mkB_list] using hown',by rw [HWL.out];exact HN.out,below_grown (hnx.alloc hsz _) (by simp;omega) (hown.alloc _) hgrow⟩
      case measure=>simp [intOf];omega
    ·have n9:((s[k].toNat:Int)==9)=false:=by rw [beq_eq_false_iff_ne];omega
     by_cases h32:s[k].toNat=32
     ·have HG:Hid (gapB s[k]=true):=Lib.hid (by rw [hgd];exact decide_eq_true (.inr h32))
      have n32:((s[k].toNat:Int)==32)=true:=by rw [beq_iff_eq];omega
      clear hgd h9 h35 h32
      by_cases hte:t.data.toList=[]
      ·obtain rfl:t=⟨#[]⟩:=by rw [←mkB_list t,hte];rfl
       have HN:Hid (WL=out++fieldsGo [] (said (s.data.toList.drop (k+1)))):=Lib.hid (by rw [←HWL.out,HW.out,HSD.out,show (ByteArray.mk #[]).data.toList=[] from rfl,fieldsGo_skip _ _ HG.out])
       clear hte
       go_wp2
       go_roundw
       case rel=>exact ⟨k+1,⟨#[]⟩,out,by rw [HSL.out];omega,by go_num,rfl,Nat.zero_le _,by omega,hown,by rw [HWL.out];exact HN.out,hnx⟩
       case measure=>simp [intOf];omega
      ·have HN:Hid (WL=(out++[t.data.toList])++fieldsGo [] (said (s.data.toList.drop (k+1)))):=Lib.hid (by rw [←HWL.out,HW.out,HSD.out,fieldsGo_end _ _ _ HG.out hte];simp)
       have ht1:(!t.toList.isEmpty)=true:=by
        rw [ByteArray.toList_eq]
        cases hh:t.data.toList with
        | nil=>exact absurd hh hte
        | cons x r=>rfl
       clear hte
       go_wp2_with (at_builtin;refine wpList_append_own _ rfl _ _ 102 rfl w.heap.size 9 i0 (.string ⟨#[]⟩) 1 16 Tryz.underlying102 HI.out.1 HI.out.2.1 HI.out.2.2.1 HI.out.2.2.2 rfl (by decide) _ _ _ rfl (hown.alloc _) ⟨wr.heap.size,0,none⟩ 1 1 [.string t] rfl rfl (cell_one_new _ _ _) (by intro u hu;simp at hu;subst hu;rfl) (by rw [List.length_map];unfold maxLen;omega) (by rw [List.length_map];omega) (by simp;omega) ?_;intro v' w1 hown' hgrow _)
       go_roundw
       case rel=>exact ⟨k+1,⟨#[]⟩,out++[t.data.toList],by rw [HSL.out];omega,by go_num,rfl,Nat.zero_le _,by simp;omega,by rw [List.map_append,List.map_append,List.length_append];simpa [mkB_list] using hown',by rw [HWL.out];exact HN.out,below_grown (hnx.alloc hsz _) (by simp;omega) (hown.alloc _) hgrow⟩
       case measure=>simp [intOf];omega
     ·have HG:Hid (gapB s[k]=false):=Lib.hid (by rw [hgd];exact decide_eq_false (by omega))
      have n32:((s[k].toNat:Int)==32)=false:=by rw [beq_eq_false_iff_ne];omega
      have HN:Hid (WL=out++fieldsGo (t.data.toList++[s[k]]) (said (s.data.toList.drop (k+1)))):=Lib.hid (by rw [←HWL.out,HW.out,HSD.out,fieldsGo_snoc _ _ _ HG.out])
      obtain ⟨u,hu⟩:∃ u,s.extract k (k+1)=u:=⟨_,rfl⟩
      have hud:u.data.toList=[s[k]]:=by
       rw [←hu,piece_mid,mkB_data,drop_at s k hlt];simp
      have HUD:=Lib.hid hud
      have hus:u.size=1:=by rw [←size_list,hud];rfl
      have HUS:=Lib.hid hus
      have z1:¬ 9223372036854775807 < t.size+u.size:=by omega
      have c1:(0:Int)≤↑k:=by omega
      have c2:(↑k:Int)+1≤↑s.size:=by omega
      clear hgd h9 h35 h32 hud hus
      go_wp2
      go_roundw
      case rel=>exact ⟨k+1,t++u,out,by rw [HSL.out];omega,by go_num,rfl,by rw [←size_list,bytes_add,List.length_append,size_list,size_list,HUS.out];omega,by omega,hown,by rw [HWL.out,bytes_add,HUD.out];exact HN.out,hnx⟩
      case measure=>simp [intOf];omega
  ·have HSD:Hid (said (s.data.toList.drop k)=[]):=Lib.hid (by
    rw [List.drop_eq_nil_of_le (by rw [HSL.out];omega)];rfl)
   by_cases hte:t.data.toList=[]
   ·obtain rfl:t=⟨#[]⟩:=by rw [←mkB_list t,hte];rfl
    have HN:Hid (WL=out):=Lib.hid (by rw [←HWL.out,HW.out,HSD.out];simp [fieldsGo])
    clear hte
    go_wp2
    go_ret
    exact ⟨_,rfl,by rw [HN.out];exact hown,hnx⟩
   ·have HN:Hid (WL=out++[t.data.toList]):=Lib.hid (by rw [←HWL.out,HW.out,HSD.out];simp [fieldsGo,hte])
    have ht1:(!t.toList.isEmpty)=true:=by
     rw [ByteArray.toList_eq]
     cases hh:t.data.toList with
     | nil=>exact absurd hh hte
     | cons x r=>rfl
    clear hte
    go_wp2_with (at_builtin;refine wpList_append_own _ rfl _ _ 102 rfl w.heap.size 9 i0 (.string ⟨#[]⟩) 1 16 Tryz.underlying102 HI.out.1 HI.out.2.1 HI.out.2.2.1 HI.out.2.2.2 rfl (by decide) _ _ _ rfl (hown.alloc _) ⟨wr.heap.size,0,none⟩ 1 1 [.string t] rfl rfl (cell_one_new _ _ _) (by intro u hu;simp at hu;subst hu;rfl) (by rw [List.length_map];unfold maxLen;omega) (by rw [List.length_map];omega) (by simp;omega) ?_;intro v' w1 hown' hgrow _)
    go_ret
    exact ⟨_,rfl,by rw [HN.out];rw [List.map_append,List.map_append,List.length_append];simpa [mkB_list] using hown',below_grown (hnx.alloc hsz _) (by simp;omega) (hown.alloc _) hgrow⟩
end Go.Proofs.YtfhhihamndbcnaaGreatDoor
end
section
namespace Go.Proofs.YtfhhihamndbcnaaGreatDoor
open Go.RowKit
variable {F:Fence} {n:Nat} {P:Program}
def SeqTold {α:Type} (F:Fence) (n:Nat) (P:Program) (g:Nat) (lb:Array Value) (encs:α→Array Value) (Kp:World→World→Prop) (R:List α→α→World→Prop) (S Sp:List α→Prop) (w:World):Prop :=
 ∀ (l:Nat) (J Jx:List α→World→Prop) (W:World),Below w.heap.size w W→(∀ s A B,J s A→Below A.heap.size A B→J s B)→(∀ s A B,Jx s A→Below A.heap.size A B→Jx s B) →
   (∀ pre x W1,J pre W1→R pre x W1→YieldAt F (n - 1) P l (encs x) W1 fun e W' =>
    (e=.returned (.bool true)∧J (pre++[x]) W'∧Kp W1 W')∨(e=.returned (.bool false)∧Jx (pre++[x]) W')) →
   J [] W →
   CallsIn F n P g (#[.func (.yield l) #[] #[]]++lb) W fun e W'=>(∃ v,e=.returned v)∧((∃ xs,S xs∧J xs W')∨(∃ pre,Sp pre∧Jx pre W'))
theorem grown_of_below {A B:World} (h:Below A.heap.size A B):A.grownBy B none:=⟨h.os,h.tape,h.output,h.size,fun j hj _=>h.block j hj⟩
theorem wpIn_rangeFunc_told {α:Type} {g:Operand} {ps:Array Tmp} {assign body:Code} {Q:Exit→Act→World→Prop} {a:Act} {w:World}
 (hro:F.round=none) (h1:1≤n) {gf:Nat} {lb:Array Value} (hg:a.eval g=.func (.func gf) #[] lb) (hFg:F.fn gf) (eg:∀ args w,(callFunc gf args).run P w=.ok (.enter gf args) w)
 {encs:α→Array Value} {Kp:World→World→Prop} {R:List α→α→World→Prop} {S Sp:List α→Prop} (hseq:SeqTold F (n - 1) P gf lb encs Kp R S Sp w)
 (hKt:∀ {A B C:World},Kp A B→Kp B C→Kp A C) (hKb:∀ (W:World) (l:Nat) (o o':Obj),w.heap.size≤l→W.heap[l]?=some o→o.isCells=false→o.isWalk=false→Kp W (W.putObj l o')) (hps:∀ x,(encs x).size=ps.size)
 (I:List α→World→Prop) (Ix:Code→List α→World→Prop) (hI:OwnFrom w.heap.size I) (hIx:∀ c,OwnFrom w.heap.size (Ix c)) (h0:I [] w)
 (hround:∀ (l:Nat) (pre:List α) (x:α) (W:World),w.heap.size≤l→I pre W→R pre x W →
  assign.wpIn (F.inRound l) (n - 1 - 1) P (Exit.then (fun a' W'=>KeepsFrom w.heap.size W W'∧Kp W W' ∧
   ∀ o o',W'.heap[l]?=some o→o.isCells=false→body.wpIn (F.inRound l) (n - 1 - 1) P (ownPostG w.heap.size Kp I Ix (pre++[x]) (W'.putObj l o')) a' (W'.putObj l o')) (fun _ _ _=>False))
   { tmps:=(ps.zip (encs x)).foldl (fun t (p,v)=>t.setIfInBounds p v) a.tmps,defers:=[] } W)
 (hdone:∀ (D:Nat) (xs:List α) (W:World),w.heap.size≤D→S xs→I xs W→W.heap[D]?=some (.deferred (some []))→Q .normal { a with defers:={ target:=.collected D,args:=#[] }::a.defers } W)
 (hstop:∀ (D:Nat) (c:Code) (pre:List α) (W:World),w.heap.size≤D→Sp pre→Ix c pre W→W.heap[D]?=some (.deferred (some []))→c.wpIn F n P Q { a with defers:={ target:=.collected D,args:=#[] }::a.defers } W) :
 (Code.rangeFunc g ps assign body).wpIn F n P Q a w:=by
 refine wpIn_rangeFunc fun fn hfn=>?_
 rw [hro]
 obtain ⟨rc,hrc⟩:∃ rc:LoopState→Option Code→Loop,rc=fun st pe=>{ state:=st,pending:=pe,fn,tmps:=a.tmps,params:=ps,assign,body,defers:=w.heap.size }:=⟨_,rfl⟩
 obtain ⟨l,hl0⟩:∃ l,l=w.heap.size+1:=⟨_,rfl⟩
 obtain ⟨V,hV⟩:∃ V,(w.alloc (.deferred (some []))).alloc (.loop (rc .ready none))=V:=⟨_,rfl⟩
 have vl:V.heap[l]?=some (.loop (rc .ready none)):=by
  have:=World.alloc_heap_new (w.alloc (.deferred (some []))) (.loop (rc .ready none))
  rw [World.size_alloc] at this
  rw [←hV,hl0];exact this
 have vd:V.heap[w.heap.size]?=some (.deferred (some [])):=by
  rw [←hV];exact (Below.heap_alloc _ _ _ (by simp)).trans (World.alloc_heap_new w _)
 have vI:I [] V:=by rw [←hV];exact hI.alloc _ (hI.alloc _ h0)
 have vb:Below w.heap.size w V:=by rw [←hV];exact ((Below.refl _ w).alloc (Nat.le_refl _) _).alloc (by simp) _
 refine ⟨l,[{ target:=.collected w.heap.size,args:=#[] }],V,{ target:=.fn (.func gf) lb,args:=#[.func (.yield l) #[] #[]] },V,gf,#[.func (.yield l) #[] #[]]++lb,V,?_,?_,?_,?_,fun _=>h1,?_⟩
 ·rw [←hV,hrc,hl0];exact run_enterLoop_outer _ _ _ _ _
 ·simp only [resolve,hg]
  simp [go_sem]
 ·intro f' hf';simp [Target.leads] at hf';subst hf';exact hFg
 ·simp [invoke,go_sem,eg]
 refine (hseq l (fun pre W=>I pre W∧W.heap[l]?=some (.loop (rc .ready none))∧W.heap[w.heap.size]?=some (.deferred (some [])))
  (fun pre W=>∃ c,Ix c pre W∧W.heap[l]?=some (.loop (rc .done (some c)))∧W.heap[w.heap.size]?=some (.deferred (some []))) V vb ?_ ?_ ?_ ⟨vI,vl,vd⟩).mono ?_
 ·rintro s A B ⟨i1,i2,i3⟩ hb
  exact ⟨hI s A B none i1 (grown_of_below hb) (fun r e=>by cases e),(hb.block _ (Array.getElem?_eq_some_iff.1 i2).1).trans i2,(hb.block _ (Array.getElem?_eq_some_iff.1 i3).1).trans i3⟩
 ·rintro s A B ⟨c,i1,i2,i3⟩ hb
  exact ⟨c,hIx c s A B none i1 (grown_of_below hb) (fun r e=>by cases e),(hb.block _ (Array.getElem?_eq_some_iff.1 i2).1).trans i2,(hb.block _ (Array.getElem?_eq_some_iff.1 i3).1).trans i3⟩
 ·rintro pre x W ⟨i1,i2,i3⟩ hR
  have hy:=run_yield (P:=P) (args:=encs x) i2 (by rw [hrc];exact hps x)
  rw [hrc] at hy
  refine ⟨fn,_,assign,body,hy,roundIn_of_wpIn hfn (wpIn_mono (hround l pre x W (by omega) i1 hR) ?_)⟩
  clear hy
  rintro e a' Wa hp
  cases e with
  | normal =>
    obtain ⟨hk,hkp,hbody⟩:=hp
    have j2:=hk.same _ _ (by omega) i2 rfl
    have j3:=hk.same _ _ (Nat.le_refl _) i3 rfl
    have jl:=(Array.getElem?_eq_some_iff.1 j2).1
    have k2:(Wa.putObj l (.loop { rc .ready none with state:=.busy })).heap[l]?=some (.loop { rc .ready none with state:=.busy }):=World.putObj_heap_same jl
    have k3:(Wa.putObj l (.loop { rc .ready none with state:=.busy })).heap[w.heap.size]?=some (.deferred (some [])):=(World.putObj_heap_other (by omega)).trans j3
    refine ⟨_,run_beginRound j2 (by rw [hrc]),wpIn_mono (hbody _ _ j2 rfl) ?_⟩
    have ends:∀ (jump:Option Code) (W3:World),KeepsFrom w.heap.size (Wa.putObj l (.loop { rc .ready none with state:=.busy })) W3 →
     (Instr.endRound l jump).run P W3=.ok (.bool jump.isNone) (W3.putObj l (.loop (rc (if jump.isNone then .ready else .done) jump)))∧W3.heap[l]?=some (.loop { rc .ready none with state:=.busy }) ∧
     (W3.putObj l (.loop (rc (if jump.isNone then .ready else .done) jump))).heap[l]?=some (.loop (rc (if jump.isNone then .ready else .done) jump)) ∧
     (W3.putObj l (.loop (rc (if jump.isNone then .ready else .done) jump))).heap[w.heap.size]?=some (.deferred (some [])):=fun jump W3 h3=>by
     have l3:=h3.same _ _ (by omega) k2 rfl
     have e3:=run_endRound (P:=P) jump l3
     rw [hrc] at e3 ⊢
     exact ⟨e3,by rw [hrc] at l3;exact l3,World.putObj_heap_same (Array.getElem?_eq_some_iff.1 l3).1,(World.putObj_heap_other (by omega)).trans (h3.same _ _ (Nat.le_refl _) k3 rfl)⟩
    rintro e a3 W3 hp
    have jumps:∀ c,KeepsFrom w.heap.size (Wa.putObj l (.loop { rc .ready none with state:=.busy })) W3∧Ix c (pre++[x]) W3→∃ v w',(Instr.endRound l (some c)).run P W3=.ok (.bool v) w'∧v=false∧∃ c',Ix c' (pre++[x]) w'∧w'.heap[l]?=some (.loop (rc .done (some c')))∧w'.heap[w.heap.size]?=some (.deferred (some [])):=fun c hc=>by
     obtain ⟨hr,l3,l4,d4⟩:=ends (some c) W3 hc.1
     exact ⟨_,_,hr,rfl,c,(hIx _).putObj _ hc.2 (by omega) l3 rfl,l4,d4⟩
    cases e with
    | normal =>
      obtain ⟨hk3,hkp3,hi3⟩:=hp
      obtain ⟨hr,l3,l4,d4⟩:=ends none W3 hk3
      exact ⟨_,_,hr,.inl ⟨rfl,⟨hI.putObj _ hi3 (by omega) l3 rfl,l4,d4⟩,hKt hkp (hKt (hKt (hKb Wa l _ _ (by omega) j2 rfl rfl) hkp3) (hKb _ _ _ _ (by omega) l3 rfl rfl))⟩⟩
    | ret=>obtain ⟨v,w',hr,rfl,hc⟩:=jumps .ret hp;exact ⟨_,_,hr,.inr ⟨rfl,hc⟩⟩
    | exit id=>obtain ⟨v,w',hr,rfl,hc⟩:=jumps (.exit id) hp;exact ⟨_,_,hr,.inr ⟨rfl,hc⟩⟩
    | goto t=>obtain ⟨v,w',hr,rfl,hc⟩:=jumps (.goto t) hp;exact ⟨_,_,hr,.inr ⟨rfl,hc⟩⟩
    | panic ch=>exact hp.elim
    | outgrown=>exact hp.elim
  | _=>exact hp.elim
 ·rintro e W2 ⟨⟨v,rfl⟩,(⟨xs,hS,i1,i2,i3⟩ | ⟨pre,hSp,c,i1,i2,i3⟩)⟩
  ·exact ⟨none,_,by have:=run_endLoop (P:=P) i2 (by rw [hrc];simp);rw [hrc] at this;exact this,hdone _ xs _ (Nat.le_refl _) hS (hI.putObj _ i1 (by omega) i2 rfl) ((World.putObj_heap_other (by omega)).trans i3)⟩
  ·exact ⟨some c,_,by have:=run_endLoop (P:=P) i2 (by rw [hrc];simp);rw [hrc] at this;exact this,hstop _ c pre _ (Nat.le_refl _) hSp ((hIx c).putObj _ i1 (by omega) i2 rfl) ((World.putObj_heap_other (by omega)).trans i3)⟩
end Go.Proofs.YtfhhihamndbcnaaGreatDoor
end
section
namespace Go.Proofs.YtfhhihamndbcnaaGreatDoor
open Go.ChangeShapes Go.WideShapes Go.ChangeAt Go.RowKit
theorem laidOut:laidOutB Tryz.prog=true:=by kernel_rfl
end Go.Proofs.YtfhhihamndbcnaaGreatDoor
end
section
namespace Go.Proofs.YtfhhihamndbcnaaGreatDoor
open Go.ChangeShapes Go.WideShapes Go.ChangeAt Go.RowKit Go.Deep
section
variable {H:Type} {enc:TypeId × Value→H} {P:Program} {W:World} {base:Nat} {sp:Nat→Bool} {held:Bool}
end
theorem cells_of_texts {H:Type} {enc:TypeId × Value→H} {P:Program} {w:World} {base:Nat} {sp:Nat→Bool} {held:Bool} {fuel:Nat} {t e:TypeId} {n:Nat} {cs:List Value} {zs:List (List UInt8)} {p:List MemPlace}
 (ht:P.underlying t=some (.array n e)) (he:P.underlying e=some .string) (hce:P.cellsOf e=1) (hct:P.cellsOf t=n)
 (h:DataW.trod enc P w base sp held fuel t cs=some (.agg (zs.map fun z=>.lit (.string z)),p)):∀ (i:Nat) z,zs[i]?=some z→cs[i]?=some (.string (mkB z)):=by
 cases fuel with
 | zero=>simp [DataW.trod] at h
 | succ fuel =>
   simp only [DataW.trod,ht,hce,hct,Nat.mul_one] at h
   split at h
   ·obtain ⟨xs,hm,hx⟩:=Option.map_eq_some_iff.1 h
    have hxs:xs.map (·.1)=zs.map fun z=>(DataW.lit (.string z):DataW H):=by simpa using congrArg Prod.fst hx
    have hxl:xs.length=n:=by simpa using Lib.mapM_length hm
    have hzl:zs.length=n:=by
     have:=congrArg List.length hxs
     simp at this
     omega
    intro i z hz
    have hi:i < n:=by rw [←hzl];exact (List.getElem?_eq_some_iff.1 hz).1
    obtain ⟨b,hb,hf⟩:=Lib.mapM_at hm i i (by simp [hi])
    obtain ⟨s,hc,rfl,_⟩:=DataW.trod_string he hf
    have h1:cs[i]?=some (.string s):=by
     have:=congrArg (·[0]?) hc
     simpa [List.getElem?_take,List.getElem?_drop] using this
    have h2:(xs.map (·.1))[i]?=some (DataW.lit (.string s.data.toList):DataW H):=by simp [hb]
    rw [hxs] at h2
    simp only [List.getElem?_map,hz,Option.map_some,Option.some.injEq,DataW.lit.injEq,Lit.string.injEq] at h2
    rw [h1,h2,mkB_list]
   ·cases h
end Go.Proofs.YtfhhihamndbcnaaGreatDoor
end
