/- LexPlain LexFields Base LexBytes ChartPlain ChartLists SortedG Sorted Mem LexMem Els FlowPlain UnitPlain FlowSearch Past UnitOrd MapEntry -/
import Derived.BigQuiet
import Derived.Deep.Draws
import Derived.Deep.LoopGhost
import Derived.Deep.WholeRow
import Derived.Handy
import Derived.IntWalk
import Derived.Laws.AppendOwnNone
import Derived.Laws.RangeString
import Derived.Laws.Tables
import Derived.Lib.Bytealg
import Derived.Lib.FieldsP
import Derived.Lib.Hide
import Derived.Lib.IndexBytes
import Derived.Lib.IndexMore
import Derived.Lib.SlicesS
import Derived.Lib.Walk
import Derived.LoopTactic
import Derived.Maps.Own
import Derived.Maps.OwnOps
import Derived.Maps.Views
import Derived.RangeFuncBox
import Derived.RegionTactic
import Derived.Test.YtdhfpgjnjlcciaaGreatDoorProg
import Derived.WalkKit
import Derived.WalkSmall
import Derived.WalkSpells
import Derived.WideKeyEntry
namespace Go.Proofs.YtdhfpgjnjlcciaaGreatDoor
end Go.Proofs.YtdhfpgjnjlcciaaGreatDoor
namespace Go.Proofs.YtdhfpgjnjlcciaaGreatDoor.Co
end Go.Proofs.YtdhfpgjnjlcciaaGreatDoor.Co
namespace Go.Proofs.YtdhfpgjnjlcciaaGreatDoor.Fa
end Go.Proofs.YtdhfpgjnjlcciaaGreatDoor.Fa
namespace Go.Proofs.YtdhfpgjnjlcciaaGreatDoor.Fl
end Go.Proofs.YtdhfpgjnjlcciaaGreatDoor.Fl
namespace Go.Proofs.YtdhfpgjnjlcciaaGreatDoor.G
end Go.Proofs.YtdhfpgjnjlcciaaGreatDoor.G
namespace Go.Proofs.YtdhfpgjnjlcciaaGreatDoor.Ow
end Go.Proofs.YtdhfpgjnjlcciaaGreatDoor.Ow
namespace Go.Proofs.YtdhfpgjnjlcciaaGreatDoor.Pk
end Go.Proofs.YtdhfpgjnjlcciaaGreatDoor.Pk
namespace Go.Proofs.YtdhfpgjnjlcciaaGreatDoor.Un
end Go.Proofs.YtdhfpgjnjlcciaaGreatDoor.Un
namespace Go.Proofs.YtdhfpgjnjlcciaaGreatDoor.jh
end Go.Proofs.YtdhfpgjnjlcciaaGreatDoor.jh
namespace Go.Proofs.YtdhfpgjnjlcciaaGreatDoor.yc
end Go.Proofs.YtdhfpgjnjlcciaaGreatDoor.yc
namespace Go.Proofs.YtdhfpgjnjlcciaaGreatDoor.toList_inj
end Go.Proofs.YtdhfpgjnjlcciaaGreatDoor.toList_inj
section
namespace Go.Proofs.YtdhfpgjnjlcciaaGreatDoor
def mkB (l:List UInt8):ByteArray:=⟨l.toArray⟩
theorem qJ (s:ByteArray):mkB s.data.toList=s:=by simp [mkB]
theorem zv (s:ByteArray):s.data.toList.length=s.size:=by rw [Array.length_toList];rfl
theorem Jp (l:List UInt8):(mkB l).size=l.length:=by simp [mkB,ByteArray.size]
theorem qK (l:List UInt8):(mkB l).data.toList=l:=by simp [mkB]
def okB (c:UInt8):Bool:=c==9 || c==10 || (decide (32≤c.toNat) && decide (c.toNat≤126))
def okL (l:List UInt8):Bool:=l.all okB
def gapB (c:UInt8):Bool:=c==9 || c==32
def zn (cur:List UInt8):List UInt8→List (List UInt8)
 | []=>[cur]
 | c::r=>if c=10 then cur::zn [] r else zn (cur++[c]) r
def zg (cur:List UInt8):List UInt8→List (List UInt8)
 | []=>if cur=[] then [] else [cur]
 | c::r=>if gapB c then (if cur=[] then zg [] r else cur::zg [] r) else zg (cur++[c]) r
def said:List UInt8→List UInt8
 | []=>[]
 | c::r=>if c=35 then [] else c::said r
def wordsL (l:List UInt8):List (List UInt8):=zg [] (said l)
def enumL (n:Nat):List (List UInt8)→List (Nat × List UInt8)
 | []=>[]
 | x::r=>(n,x)::enumL (n+1) r
def numP (l:List (Nat × List UInt8)):List (Nat × List (List UInt8)):=l.flatMap fun x=>if wordsL x.2=[] then [] else [(x.1,wordsL x.2)]
def linesL (l:List UInt8):List (Nat × List (List UInt8)):=numP (enumL 1 (zn [] l))
def asB (L:List (Nat × List (List UInt8))):List (Int × List ByteArray):=L.map fun x=>((x.1:Int),x.2.map mkB)
def linE (l:List UInt8):Int:=if 20000 < l.length then 4 else if okL l then 0 else 5
def linV (l:List UInt8):List (Nat × List (List UInt8)):=if 20000 < l.length then [] else if okL l then linesL l else []
theorem zgZ (a b:List (Nat × List UInt8)):numP (a++b)=numP a++numP b:=by simp [numP]
theorem zeK (a:List (Nat × List UInt8)) (x:Nat × List UInt8) (h:wordsL x.2≠[]):numP (a++[x])=numP a++[(x.1,wordsL x.2)]:=by simp [numP,h]
theorem zgq (a:List (Nat × List UInt8)) (x:Nat × List UInt8) (h:wordsL x.2=[]):numP (a++[x])=numP a:=by simp [numP,h]
theorem ZU (a:List (Nat × List UInt8)):(numP a).length≤a.length:=by
 induction a with
 | nil=>simp [numP]
 | cons x r ih =>
   have e:numP (x::r)=(if wordsL x.2=[] then [] else [(x.1,wordsL x.2)])++numP r:=by simp [numP]
   rw [e];simp only [List.length_append,List.length_cons]
   split <;> simp <;> omega
theorem Yy (a b:List (Nat × List (List UInt8))):asB (a++b)=asB a++asB b:=by simp [asB]
theorem vH (a:List (Nat × List (List UInt8))):(asB a).length=a.length:=by simp [asB]
theorem xh (n:Nat) (a:List (List UInt8)):(enumL n a).length=a.length:=by
 induction a generalizing n with
 | nil=>rfl
 | cons x r ih=>simp [enumL,ih]
theorem zag (cur u r:List UInt8) (h:10 ∉ u):zn cur (u++r)=zn (cur++u) r:=by
 induction u generalizing cur with
 | nil=>simp
 | cons c u ih =>
   have hc:c≠10:=fun e=>h (by simp [e])
   simp only [List.cons_append,zn,if_neg hc]
   rw [ih _ (fun e=>h (List.mem_cons_of_mem _ e))]
   simp
theorem kX (u r:List UInt8) (h:10 ∉ u):zn [] (u++10::r)=u::zn [] r:=by
 rw [zag _ _ _ h];simp [zn]
theorem zgB (u:List UInt8) (h:10 ∉ u):zn [] u=[u]:=by
 have:=zag [] u [] h
 simpa [zn] using this
theorem vt (cur l:List UInt8):(zn cur l).length≤l.length+1:=by
 induction l generalizing cur with
 | nil=>simp [zn]
 | cons c r ih =>
   simp only [zn];split
   ·have:=ih [];simp;omega
   ·have:=ih (cur++[c]);simp;omega
theorem zal (p:UInt8→Bool) (cur l:List UInt8) (hc:cur.all p=true) (hl:l.all p=true):∀ x∈zn cur l,x.all p=true∧x.length≤cur.length+l.length:=by
 induction l generalizing cur with
 | nil=>intro x hx;simp [zn] at hx;subst hx;exact ⟨hc,by simp⟩
 | cons c r ih =>
   rw [List.all_cons,Bool.and_eq_true] at hl
   intro x hx
   simp only [zn] at hx
   split at hx
   ·rcases List.mem_cons.1 hx with rfl | h
    ·exact ⟨hc,by simp⟩
    ·have:=ih [] rfl hl.2 x h
     exact ⟨this.1,by have:=this.2;simp at this ⊢;omega⟩
   ·have:=ih (cur++[c]) (by simp [hc,hl.1]) hl.2 x hx
    exact ⟨this.1,by have:=this.2;simp at this ⊢;omega⟩
theorem zcc (cur u r:List UInt8) (h:u.all (fun c=>!gapB c)=true):zg cur (u++r)=zg (cur++u) r:=by
 induction u generalizing cur with
 | nil=>simp
 | cons c u ih =>
   rw [List.all_cons,Bool.and_eq_true] at h
   have hc:gapB c=false:=by simpa using h.1
   simp only [List.cons_append,zg,hc,Bool.false_eq_true,if_false]
   rw [ih _ h.2]
   simp
theorem Vt (u r:List UInt8) (h:u.all gapB=true):zg [] (u++r)=zg [] r:=by
 induction u with
 | nil=>rfl
 | cons c u ih =>
   rw [List.all_cons,Bool.and_eq_true] at h
   simp only [List.cons_append,zg,h.1,if_true]
   exact ih h.2
theorem zgy (cur u r:List UInt8) (hu:u≠[]) (hc:cur≠[]) (h:u.all gapB=true):zg cur (u++r)=cur::zg [] r:=by
 cases u with
 | nil=>exact absurd rfl hu
 | cons c u =>
   rw [List.all_cons,Bool.and_eq_true] at h
   simp only [List.cons_append,zg,h.1,if_true,hc,if_false]
   rw [Vt u r h.2]
theorem zaN (l:List UInt8):(said l).length≤l.length:=by
 induction l with
 | nil=>simp [said]
 | cons c r ih=>simp only [said];split <;> simp;omega
theorem QC (u r:List UInt8) (h:35 ∉ u):said (u++35::r)=u:=by
 induction u with
 | nil=>simp [said]
 | cons c u ih =>
   have hc:c≠35:=fun e=>h (by simp [e])
   simp only [List.cons_append,said,if_neg hc]
   rw [ih (fun e=>h (List.mem_cons_of_mem _ e))]
theorem zaj (u:List UInt8) (h:35 ∉ u):said u=u:=by
 induction u with
 | nil=>rfl
 | cons c u ih =>
   have hc:c≠35:=fun e=>h (by simp [e])
   simp only [said,if_neg hc]
   rw [ih (fun e=>h (List.mem_cons_of_mem _ e))]
theorem Kh (d:UInt8) (l:List UInt8):(Lib.indexByte l d=-1∧d ∉ l)∨∃ i:Nat,Lib.indexByte l d=(i:Int)∧i < l.length∧d ∉ l.take i∧l=l.take i++d::l.drop (i+1):=by
 induction l with
 | nil=>exact .inl ⟨rfl,by simp⟩
 | cons c r ih =>
   by_cases h:c=d
   ·subst h
    exact .inr ⟨0,by simp [Lib.indexByte],by simp,by simp,by simp⟩
   ·have hb:(c==d)=false:=by simpa using h
    rcases ih with ⟨h1,h2⟩ | ⟨i,h1,h2,h3,h4⟩
    ·exact .inl ⟨by simp [Lib.indexByte,hb,h1],by simp [h2,Ne.symm h]⟩
    ·refine .inr ⟨i+1,by simp [Lib.indexByte,hb,h1],by simpa using h2,?_,?_⟩
     ·simp [h3,Ne.symm h]
     ·simpa using h4
theorem Y7 (s:ByteArray) (i:Nat):s.extract 0 i=mkB (s.data.toList.take i):=by
 apply ByteArray.ext
 apply Array.ext'
 rw [ByteArray.data_extract,Array.toList_extract]
 simp [mkB]
theorem zcL (s:ByteArray) (i:Nat):s.extract i s.size=mkB (s.data.toList.drop i):=by
 apply ByteArray.ext
 apply Array.ext'
 exact Lib.extract_to_end s i
theorem Qd (s:ByteArray) (i j:Nat):s.extract i j=mkB ((s.data.toList.drop i).take (j - i)):=by
 apply ByteArray.ext
 apply Array.ext'
 rw [ByteArray.data_extract,Array.toList_extract]
 simp [mkB,List.extract_eq_take_drop]
end Go.Proofs.YtdhfpgjnjlcciaaGreatDoor
end
section
namespace Go.Proofs.YtdhfpgjnjlcciaaGreatDoor
def gapR (r:Nat):Bool:=r==9 || r==32
theorem zas (c:UInt8):gapR c.toNat=gapB c:=by
 unfold gapR gapB
 have e1:(c.toNat==9)=(c==9):=by
  rw [Bool.eq_iff_iff];simp [←UInt8.toNat_inj]
 have e2:(c.toNat==32)=(c==32):=by
  rw [Bool.eq_iff_iff];simp [←UInt8.toNat_inj]
 rw [e1,e2]
def pieceL (l:List UInt8) (x:Nat × Nat):List UInt8:=(l.drop x.1).take (x.2 - x.1)
def openL (l:List UInt8) (st:Option Nat) (pos:Nat):List UInt8:=match st with
 | some a=>pieceL l (a,pos)
 | none=>[]
theorem Yp (l:List UInt8) (a b:Nat) (h:a < b) (hb:b≤l.length):pieceL l (a,b)≠[]:=by
 intro h0
 have:=congrArg List.length h0
 simp [pieceL] at this
 omega
theorem Qz (l:List UInt8) (a b:Nat) (h:a≤b) (hb:b < l.length):pieceL l (a,b)++[l[b]]=pieceL l (a,b+1):=by
 unfold pieceL
 have e:b+1 - a=(b - a)+1:=by omega
 rw [e,List.take_succ_eq_append_getElem (by simp;omega)]
 congr 2
 simp only [List.getElem_drop]
 congr 1
 omega
theorem xd (s:ByteArray) (hs:∀ c∈s.data.toList,c.toNat < 128):∀ (f pos:Nat) (st:Option Nat) (acc:List (Nat × Nat)),s.size≤pos+f→pos≤s.size→(∀ a,st=some a→a < pos) →
 (Lib.closeSpans s (Lib.spansFromP gapR s f pos st acc)).map (pieceL s.data.toList)=acc.map (pieceL s.data.toList)++zg (openL s.data.toList st pos) (s.data.toList.drop pos)
 | 0,pos,st,acc,h,hp,hst=>by
   obtain rfl:pos=s.size:=by omega
   have hd:s.data.toList.drop s.size=[]:=List.drop_eq_nil_of_le (by rw [zv];exact Nat.le_refl _)
   rw [hd]
   cases st with
   | none=>simp [Lib.spansFromP,Lib.closeSpans,openL,zg]
   | some a =>
     have:=Yp s.data.toList a s.size (hst a rfl) (by rw [zv];exact Nat.le_refl _)
     simp [Lib.spansFromP,Lib.closeSpans,openL,zg,this]
 | f+1,pos,st,acc,h,hp,hst=>by
   by_cases hlt:pos < s.size
   ·have hl:pos < s.data.toList.length:=by rw [zv];exact hlt
    have hget:s[pos]'hlt=s.data.toList[pos]'hl:=by simp [ByteArray.getElem_eq_getElem_data]
    have hdc:=decode_ascii s pos hlt (by rw [hget];exact hs _ (List.getElem_mem hl))
    rw [hget] at hdc
    have hdrop:s.data.toList.drop pos=s.data.toList[pos]::s.data.toList.drop (pos+1):=List.drop_eq_getElem_cons hl
    rw [hdrop]
    simp only [Lib.spansFromP,hlt,if_true,hdc,zas,zg]
    cases hg:gapB s.data.toList[pos] with
    | true =>
      cases st with
      | none =>
        simp only [if_true]
        rw [xd s hs f (pos+1) none acc (by omega) (by omega) (fun a h=>by cases h)]
        simp [openL]
      | some a =>
        have hne:=Yp s.data.toList a pos (hst a rfl) (by omega)
        simp only [if_true]
        rw [xd s hs f (pos+1) none _ (by omega) (by omega) (fun a h=>by cases h)]
        simp [openL,hne]
    | false =>
      cases st with
      | none =>
        simp only [Bool.false_eq_true,if_false]
        rw [xd s hs f (pos+1) (some pos) acc (by omega) (by omega) (fun a h=>by cases h;omega)]
        simp only [openL]
        rw [←Qz s.data.toList pos pos (Nat.le_refl _) hl]
        simp [pieceL]
      | some a =>
        have ha:=hst a rfl
        simp only [Bool.false_eq_true,if_false]
        rw [xd s hs f (pos+1) (some a) acc (by omega) (by omega) (fun b h=>by cases h;omega)]
        simp only [openL]
        rw [←Qz s.data.toList a pos (by omega) hl]
   ·obtain rfl:pos=s.size:=by omega
    have hd:s.data.toList.drop s.size=[]:=List.drop_eq_nil_of_le (by rw [zv];exact Nat.le_refl _)
    rw [hd,Lib.spansFromP_end _ _ _ _ _ _ hlt]
    cases st with
    | none=>simp [Lib.closeSpans,openL,zg]
    | some a =>
      have:=Yp s.data.toList a s.size (hst a rfl) (by rw [zv];exact Nat.le_refl _)
      simp [Lib.closeSpans,openL,zg,this]
theorem zfw (s:ByteArray) (hs:∀ c∈s.data.toList,c.toNat < 128):Lib.goFieldsP gapR s=(zg [] s.data.toList).map mkB:=by
 have h:=xd s hs s.size 0 none [] (by omega) (Nat.zero_le _) (fun a h=>by cases h)
 simp only [List.map_nil,List.nil_append,openL,List.drop_zero] at h
 rw [←h,List.map_map]
 unfold Lib.goFieldsP Lib.spansOfP
 apply List.map_congr_left
 intro x _
 exact Qd s x.1 x.2
end Go.Proofs.YtdhfpgjnjlcciaaGreatDoor
end
section
namespace Go.Proofs.YtdhfpgjnjlcciaaGreatDoor
open Go.RowKit
def fit (n:Int):Bool:=decide (-9223372036854775808≤n) && decide (n≤9223372036854775807)
theorem qz (n:Int):fit n=true ↔ -9223372036854775808≤n∧n≤9223372036854775807:=by simp [fit]
theorem Z0 (n:Int):fit n=false ↔ n < -9223372036854775808∨9223372036854775807 < n:=by
 rw [←Bool.not_eq_true,qz];omega
def In64 (a:Int):Prop:=-9223372036854775808≤a∧a≤9223372036854775807
theorem jo {a:Int} (h:fit a=true):In64 a:=(qz a).1 h
theorem zk {a b:Bool} (h:a=b):Ending.returned (.bool a)=.returned (.bool b):=by rw [h]
end Go.Proofs.YtdhfpgjnjlcciaaGreatDoor
end
section
namespace Go.Proofs.YtdhfpgjnjlcciaaGreatDoor
open Go.RowKit
def letB (n:Nat):Bool:=decide (97≤n∧n≤122∨65≤n∧n≤90)
def inB (n:Nat):Bool:=decide ((97≤n∧n≤122∨65≤n∧n≤90)∨48≤n∧n≤57∨n=46∨n=95∨n=45)
def nameL (l:List UInt8):Bool:=decide (1≤l.length∧l.length≤12) && letB (l.headD 0).toNat && l.all fun c=>inB c.toNat
theorem xu {p:Prop} [Decidable p] {b:Bool} (h:b=true ↔ p):Ending.returned (.bool b)=.returned (.bool (decide p)):=by
 congr 2;rw [Bool.eq_iff_iff];simpa using h
set_option maxHeartbeats 400000 in
theorem ZK (n:Nat) (w:World) (hn:n < 256):Calls Tryz.prog 174 #[.int .u8 (n:Int)] w fun e w'=>e=.returned (.bool (letB n))∧w=w':=by
 go_enter Tryz.func174,Tryz.ntmps174
 go_wp2
 all_goals
  go_ret
  exact ⟨xu (by first | omega | (simp;omega)),rfl⟩
set_option maxHeartbeats 400000 in
theorem Z6 (n:Nat) (w:World) (hn:n < 256):Calls Tryz.prog 204 #[.int .u8 (n:Int)] w fun e w'=>e=.returned (.bool (letB n))∧w=w':=by
 go_enter Tryz.func204,Tryz.ntmps204
 go_wp2
 all_goals
  go_ret
  exact ⟨xu (by first | omega | (simp;omega)),rfl⟩
set_option maxHeartbeats 400000 in
theorem zcu (n:Nat) (w:World) (hn:n≤1114111):Calls Tryz.prog 112 #[.int .i32 (n:Int)] w fun e w'=>e=.returned (.bool (gapR n))∧w=w':=by
 have e1:gapR n=decide (n=9∨n=32):=by unfold gapR;rw [Bool.eq_iff_iff];simp
 rw [e1]
 clear e1
 go_enter Tryz.func112,Tryz.ntmps112
 go_wp2
 all_goals
  go_ret
  exact ⟨xu (by first | omega | (simp;omega)),rfl⟩
set_option maxHeartbeats 400000 in
theorem KA (n:Nat) (w:World) (hn:n < 256):Calls Tryz.prog 175 #[.int .u8 (n:Int)] w fun e w'=>e=.returned (.bool (inB n))∧w=w':=by
 cases hl:letB n with
 | true =>
   have H:=Lib.hid hl
   have hp:97≤n∧n≤122∨65≤n∧n≤90:=of_decide_eq_true hl
   clear hl
   go_enter Tryz.func175,Tryz.ntmps175
   go_wp2_with fail
   refine (ZK n _ hn).mono ?_
   rintro e w' ⟨rfl,rfl⟩
   rw [H.out]
   go_wp2
   all_goals
    go_ret
    exact ⟨xu (by first | omega | (simp;omega)),rfl⟩
 | false =>
   have H:=Lib.hid hl
   have hp:¬ (97≤n∧n≤122∨65≤n∧n≤90):=of_decide_eq_false hl
   clear hl
   go_enter Tryz.func175,Tryz.ntmps175
   go_wp2_with fail
   refine (ZK n _ hn).mono ?_
   rintro e w' ⟨rfl,rfl⟩
   rw [H.out]
   go_wp2
   all_goals
    go_ret
    exact ⟨xu (by first | omega | (simp;omega)),rfl⟩
theorem xD (p:UInt8→Bool) (s:ByteArray) (k:Nat) (h:k < s.size):(s.data.toList.take (k+1)).all p=((s.data.toList.take k).all p && p s[k]):=by
 rw [List.take_succ_eq_append_getElem (by rw [zv];exact h),List.all_append];simp;rfl
theorem zX (p:UInt8→Bool) (s:ByteArray) (k:Nat) (h:k < s.size) (hp:p s[k]=false):s.data.toList.all p=false:=by
 cases h':s.data.toList.all p with
 | false=>rfl
 | true =>
   have:=List.all_eq_true.1 h' s[k] (by
    have:s[k]=s.data.toList[k]'(by rw [zv];exact h):=by simp [ByteArray.getElem_eq_getElem_data]
    rw [this];exact List.getElem_mem _)
   rw [←hp];exact this.symm
theorem xS (p:UInt8→Bool) (s:ByteArray) (k:Nat) (h:¬ k < s.size) (hk:k≤s.size) (ha:(s.data.toList.take k).all p=true):s.data.toList.all p=true:=by
 rwa [List.take_of_length_le (by rw [zv];omega)] at ha
theorem zfv (s:ByteArray) (h:0 < s.size):s.data.toList.headD 0=s[0]:=by
 have:s[0]=s.data.toList[0]'(by rw [zv];exact h):=by simp [ByteArray.getElem_eq_getElem_data]
 rw [this,List.headD_eq_head?_getD,List.head?_eq_getElem?,List.getElem?_eq_getElem (by rw [zv];exact h)]
 rfl
theorem YF (s:ByteArray) (h:0 < s.size) (h2:s.size≤12):nameL s.data.toList=(letB s[0].toNat && s.data.toList.all fun c=>inB c.toNat):=by
 unfold nameL
 rw [zfv s h,zv]
 have:decide (1≤s.size∧s.size≤12)=true:=decide_eq_true (by omega)
 rw [this];rfl
theorem VA (s:ByteArray) (h:¬ (0 < s.size∧s.size≤12)):nameL s.data.toList=false:=by
 unfold nameL
 rw [zv]
 have:decide (1≤s.size∧s.size≤12)=false:=decide_eq_false (by omega)
 rw [this];rfl
set_option maxHeartbeats 1000000 in
theorem jS (s:ByteArray) (w:World) :
 Calls Tryz.prog 128 #[.string s] w fun e w'=>e=.returned (.bool (nameL s.data.toList))∧w=w':=by
 by_cases hl:0 < s.size∧s.size≤12
 ·obtain ⟨h0,h12⟩:=hl
  have HN:=Lib.hid (YF s h0 h12)
  cases hf:letB s[0].toNat with
  | false =>
    have HF:=Lib.hid hf
    clear hf
    have HR:Hid (nameL s.data.toList=false):=Lib.hid (by rw [HN.out,HF.out];rfl)
    have a1:¬ s.size < 1:=by omega
    have a2:¬ 12 < s.size:=by omega
    go_enter Tryz.func128,Tryz.ntmps128
    go_wp2_with fail
    refine (ZK _ _ (UInt8.toNat_lt _)).mono ?_
    rintro e w' ⟨rfl,rfl⟩
    rw [HF.out]
    go_wp2
    go_ret
    exact ⟨zk HR.out.symm,rfl⟩
  | true =>
    have HF:=Lib.hid hf
    clear hf
    have HR:Hid (nameL s.data.toList=s.data.toList.all fun c=>inB c.toNat):=Lib.hid (by rw [HN.out,HF.out];rfl)
    clear HN
    have a1:¬ s.size < 1:=by omega
    have a2:¬ 12 < s.size:=by omega
    go_enter Tryz.func128,Tryz.ntmps128
    go_wp2_with fail
    refine (ZK _ _ (UInt8.toNat_lt _)).mono ?_
    rintro e w' ⟨rfl,rfl⟩
    rw [HF.out]
    go_wp2
    go_loop [20] (fun i=>∃ k:Nat,k≤s.size∧i=.int .i64 k∧(s.data.toList.take k).all (fun c=>inB c.toNat)=true) (fun i=>s.size - (intOf i).toNat)
    case atStart=>exact ⟨0,Nat.zero_le _,rfl,rfl⟩
    case round =>
     obtain ⟨k,hk,rfl,hd⟩:=hrel
     have HD:=Lib.hid hd
     clear hd
     by_cases hlt:k < s.size
     ·cases hc:inB s[k].toNat with
      | true =>
        have HC:=Lib.hid hc
        clear hc
        go_wp2_with fail
        refine (KA _ _ (UInt8.toNat_lt _)).mono ?_
        rintro e w' ⟨rfl,rfl⟩
        rw [HC.out]
        go_wp2
        go_round
        case rel=>exact ⟨k+1,by omega,by go_num,by rw [xD _ s k hlt,HD.out,HC.out];rfl⟩
        case measure=>simp [intOf];omega
      | false =>
        have HC:=Lib.hid hc
        clear hc
        go_wp2_with fail
        refine (KA _ _ (UInt8.toNat_lt _)).mono ?_
        rintro e w' ⟨rfl,rfl⟩
        rw [HC.out]
        go_wp2
        go_ret
        exact ⟨zk (by rw [HR.out,zX _ s k hlt HC.out]),rfl⟩
     ·go_wp2
      go_ret
      exact ⟨zk (by rw [HR.out,xS _ s k hlt hk HD.out]),rfl⟩
 ·have HR:=Lib.hid (VA s hl)
  rcases (by omega:s.size < 1∨(¬ s.size < 1∧12 < s.size)) with a1 | ⟨a1,a2⟩
  ·clear hl
   go_enter Tryz.func128,Tryz.ntmps128
   go_wp2
   go_ret
   exact ⟨zk HR.out.symm,rfl⟩
  ·clear hl
   go_enter Tryz.func128,Tryz.ntmps128
   go_wp2
   go_ret
   exact ⟨zk HR.out.symm,rfl⟩
theorem JL (c:UInt8):okB c=decide (c.toNat=9∨c.toNat=10∨32≤c.toNat∧c.toNat≤126):=by
 unfold okB
 rw [Bool.eq_iff_iff]
 simp [←UInt8.toNat_inj]
 omega
set_option maxHeartbeats 1000000 in
theorem Kk (s:ByteArray) (w:World) (hs:s.size≤maxLen) :
 Calls Tryz.prog 77 #[.string s] w fun e w'=>e=.returned (.bool (okL s.data.toList))∧w=w':=by
 unfold maxLen at hs
 go_enter Tryz.func77,Tryz.ntmps77
 go_wp2
 go_loop [7] (fun i=>∃ k:Nat,k≤s.size∧i=.int .i64 k∧(s.data.toList.take k).all okB=true) (fun i=>s.size - (intOf i).toNat)
 case atStart=>exact ⟨0,Nat.zero_le _,rfl,rfl⟩
 case round =>
  obtain ⟨k,hk,rfl,hd⟩:=hrel
  have HD:=Lib.hid hd
  clear hd
  by_cases hlt:k < s.size
  ·have HO:=Lib.hid (JL s[k])
   have hb:s[k].toNat < 256:=UInt8.toNat_lt _
   go_wp2
   all_goals first
    | (go_ret
       exact ⟨zk (show false=okL s.data.toList from (zX okB s k hlt (by rw [HO.out];exact decide_eq_false (by omega))).symm),rfl⟩)
    | (go_round
       case rel=>exact ⟨k+1,by omega,by go_num,by rw [xD okB s k hlt,HD.out,HO.out];exact decide_eq_true (by first | omega | (simp only [bne_eq_false_iff_eq] at *;omega))⟩
       case measure=>simp [intOf];omega)
  ·go_wp2
   go_ret
   exact ⟨zk (xS _ s k hlt hk HD.out).symm,rfl⟩
end Go.Proofs.YtdhfpgjnjlcciaaGreatDoor
end
section
namespace Go.Proofs.YtdhfpgjnjlcciaaGreatDoor
open Go.RowKit
structure Acct where
 code:ByteArray
 cls:Int
 cash:Bool
 both:Bool
 fixed:ByteArray
 worn:Bool
theorem Acct.ext' {a b:Acct} (h0:a.code=b.code) (h1:a.cls=b.cls) (h2:a.cash=b.cash) (h3:a.both=b.both) (h4:a.fixed=b.fixed) (h5:a.worn=b.worn):a=b:=by
 cases a;cases b;simp_all
instance : DecidableEq Acct:=fun a b =>
 if h:a.code=b.code∧a.cls=b.cls∧a.cash=b.cash∧a.both=b.both∧a.fixed=b.fixed∧a.worn=b.worn then isTrue (Acct.ext' h.1 h.2.1 h.2.2.1 h.2.2.2.1 h.2.2.2.2.1 h.2.2.2.2.2)
 else isFalse fun e=>h (by subst e;exact ⟨rfl,rfl,rfl,rfl,rfl,rfl⟩)
def Acct.cells (a:Acct):List Value:=[.string a.code,.int .i64 a.cls,.bool a.cash,.bool a.both,.string a.fixed,.bool a.worn]
def zeroA:Acct:=⟨⟨#[]⟩,0,false,false,⟨#[]⟩,false⟩
def nmB (s:ByteArray):Bool:=nameL s.data.toList
def neB (s:ByteArray):Bool:=!s.toList.isEmpty
theorem qT:neB ⟨#[]⟩=false:=by unfold neB;rw [ByteArray.toList_eq];rfl
theorem ji (s:ByteArray):neB s=true ↔ s≠⟨#[]⟩:=by
 unfold neB
 constructor
 ·intro h e;subst e;rw [ByteArray.toList_eq] at h;cases h
 ·intro h
  cases hs:s.toList.isEmpty with
  | false=>rfl
  | true =>
    refine absurd ?_ h
    obtain ⟨⟨l⟩⟩:=s
    rw [ByteArray.toList_eq] at hs
    simp at hs
    subst hs
    rfl
def marksA (a:Acct):Bool :=
 if (neB a.fixed && !nmB a.fixed)=true then false
 else if (a.worn && !neB a.fixed)=true then false
 else if (a.cash && neB a.fixed)=true then false
 else if (a.cash && a.both)=true then false
 else if (neB a.fixed && a.both)=true then false
 else if (a.cash || neB a.fixed)=true then (a.cls==0)
 else if a.both=true then (a.cls != 2)
 else true
def rightA (a:Acct):Bool:=nmB a.code && decide (0≤a.cls) && decide (a.cls < 3) && marksA a
def zb:ByteArray:=⟨#[97,99,99,111,117,110,116]⟩
def tAsset:ByteArray:=⟨#[97,115,115,101,116]⟩
def qC:ByteArray:=⟨#[108,105,97,98,105,108,105,116,121]⟩
def qD:ByteArray:=⟨#[101,113,117,105,116,121]⟩
def tCash:ByteArray:=⟨#[99,97,115,104]⟩
def qA:ByteArray:=⟨#[109,117,116,117,97,108]⟩
def tWorn:ByteArray:=⟨#[119,111,114,110]⟩
def tFixed:ByteArray:=⟨#[102,105,120,101,100]⟩
def clsW (n:Int):ByteArray:=if n=0 then tAsset else if n=1 then qC else qD
def markW (a:Acct):List ByteArray:=if a.cash=true then [tCash] else if a.both=true then [qA] else if a.worn=true then [tWorn,a.fixed] else if neB a.fixed=true then [tFixed,a.fixed] else []
def wordsA (a:Acct):List ByteArray:=if rightA a=true then zb::a.code::clsW a.cls::markW a else []
def clsOf (s:ByteArray):Int:=if s=tAsset then 0 else if s=qC then 1 else if s=qD then 2 else -1
def qU (a:Acct):List ByteArray→Acct
 | [x]=>{ a with cash:=decide (x=tCash),both:=decide (x=qA) }
 | [x,y]=>{ a with fixed:=y,worn:=decide (x=tWorn) }
 | _=>a
def candA (ws:List ByteArray):Acct:=qU ⟨ws.getD 1 ⟨#[]⟩,clsOf (ws.getD 2 ⟨#[]⟩),false,false,⟨#[]⟩,false⟩ (ws.drop 3)
def parseA (ws:List ByteArray):Acct × Int:=if ws.length < 3 then (zeroA,5) else if wordsA (candA ws)=ws then (candA ws,0) else (zeroA,5)
theorem qf {a:Acct} (h:rightA a=true):nmB a.code=true∧(a.cls=0∨a.cls=1∨a.cls=2)∧marksA a=true:=by
 unfold rightA at h
 simp only [Bool.and_eq_true,decide_eq_true_eq] at h
 obtain ⟨⟨⟨h1,h2⟩,h3⟩,h4⟩:=h
 exact ⟨h1,by omega,h4⟩
theorem xJ {a:Acct} (h:marksA a=true) :
 (a.cash=false∧a.both=false∧a.fixed=⟨#[]⟩∧a.worn=false) ∨
 (a.cash=true∧a.both=false∧a.fixed=⟨#[]⟩∧a.worn=false∧a.cls=0) ∨
 (a.cash=false∧a.both=true∧a.fixed=⟨#[]⟩∧a.worn=false∧a.cls≠2) ∨
 (a.cash=false∧a.both=false∧nmB a.fixed=true∧neB a.fixed=true∧a.worn=false∧a.cls=0) ∨
 (a.cash=false∧a.both=false∧nmB a.fixed=true∧neB a.fixed=true∧a.worn=true∧a.cls=0):=by
 obtain ⟨co,cl,ca,mu,fi,wo⟩:=a
 unfold marksA at h
 simp only at h ⊢
 by_cases hf:fi=⟨#[]⟩
 ·subst hf
  rw [qT] at h ⊢
  cases ca <;> cases mu <;> cases wo <;> simp_all
 ·have hn:=(ji fi).2 hf
  rw [hn] at h ⊢
  cases hm:nmB fi <;> cases ca <;> cases mu <;> cases wo <;> simp_all
theorem zbK {n:Int} (h:n=0∨n=1∨n=2):clsOf (clsW n)=n:=by
 rcases h with rfl | rfl | rfl <;> decide
theorem Yv {a:Acct} (h:rightA a=true):parseA (wordsA a)=(a,0):=by
 obtain ⟨h1,h2,h3⟩:=qf h
 have hw:wordsA a=zb::a.code::clsW a.cls::markW a:=by unfold wordsA;rw [if_pos h]
 have hc:candA (wordsA a)=a:=by
  rw [hw]
  unfold candA
  simp only [List.getD_cons_succ,List.getD_cons_zero,List.drop_succ_cons,List.drop_zero]
  rw [zbK h2]
  have t1:decide (tCash=qA)=false:=by decide
  have t2:decide (qA=tCash)=false:=by decide
  have t3:decide (tFixed=tWorn)=false:=by decide
  rcases xJ h3 with ⟨e1,e2,e3,e4⟩ | ⟨e1,e2,e3,e4,e5⟩ | ⟨e1,e2,e3,e4,e5⟩ | ⟨e1,e2,e3,e6,e4,e5⟩ | ⟨e1,e2,e3,e6,e4,e5⟩ <;>
   obtain ⟨co,cl,ca,mu,fi,wo⟩:=a <;> simp only at e1 e2 e3 e4 ⊢ <;> subst e1 e2 e4
  ·subst e3;simp [markW,qU,qT]
  ·subst e3;simp [markW,qU,t1]
  ·subst e3;simp [markW,qU,t2]
  ·simp only at e6;simp [markW,qU,e6,t3]
  ·simp [markW,qU]
 unfold parseA
 rw [hc,if_neg (by rw [hw];simp),if_pos rfl]
theorem xw {a:Acct} (h:rightA a=false):wordsA a=[]:=by unfold wordsA;rw [h];rfl
theorem Zq {ws:List ByteArray} (h:(parseA ws).2=0):wordsA (parseA ws).1=ws∧rightA (parseA ws).1=true:=by
 unfold parseA at h ⊢
 by_cases h3:ws.length < 3
 ·rw [if_pos h3] at h;simp at h
 ·rw [if_neg h3] at h ⊢
  by_cases hw:wordsA (candA ws)=ws
  ·rw [if_pos hw]
   refine ⟨hw,?_⟩
   cases hr:rightA (candA ws) with
   | true=>rfl
   | false =>
     rw [xw hr] at hw
     subst hw
     simp at h3
  ·rw [if_neg hw] at h;simp at h
theorem kY (ws:List ByteArray):parseA ws=(zeroA,5)∨(wordsA (parseA ws).1=ws∧rightA (parseA ws).1=true∧(parseA ws).2=0):=by
 by_cases h:(parseA ws).2=0
 ·exact .inr ⟨(Zq h).1,(Zq h).2,h⟩
 ·left
  unfold parseA at h ⊢
  split
  ·rfl
  ·split
   ·rename_i h1 h2;rw [if_neg h1,if_pos h2] at h;exact absurd rfl h
   ·rfl
theorem kM {a:Acct} {ws:List ByteArray} (hr:rightA a=true) (h:wordsA a=ws):parseA ws=(a,0):=by rw [←h];exact Yv hr
def ltS (x y:ByteArray):Bool:=Op.bytesLess x.toList y.toList
theorem kU:∀ (x y:List UInt8),Op.bytesLess x y=true ↔ x < y
 | [],[]=>by simp [Op.bytesLess]
 | [],_::_=>by simp [Op.bytesLess]
 | _::_,[]=>by simp [Op.bytesLess]
 | a::x,b::y=>by
   have ih:=kU x y
   rw [List.cons_lt_cons_iff]
   unfold Op.bytesLess
   by_cases h:a=b
   ·subst h;simp [ih]
   ·simp [h]
theorem Kt (x y:ByteArray):ltS x y=true ↔ x.toList < y.toList:=by unfold ltS;exact kU _ _
theorem toList_inj {x y:ByteArray} (h:x.toList=y.toList):x=y:=by
 rw [ByteArray.toList_eq,ByteArray.toList_eq] at h
 obtain ⟨⟨a⟩⟩:=x;obtain ⟨⟨b⟩⟩:=y
 simp at h;rw [h]
theorem yO {x y z:ByteArray} (h1:ltS x y=true) (h2:ltS y z=true):ltS x z=true:=by
 rw [Kt] at *;exact List.lt_trans h1 h2
theorem jL (x:ByteArray):ltS x x=false:=by
 cases h:ltS x x with
 | false=>rfl
 | true=>rw [Kt] at h;exact absurd h (List.lt_irrefl _)
theorem zhQ {x y:ByteArray} (h:ltS x y=true):ltS y x=false:=by
 cases h':ltS y x with
 | false=>rfl
 | true=>rw [←jL x];exact (yO h h').symm
theorem YG:∀ (x y:List UInt8),Op.bytesLess x y=false→x≠y→Op.bytesLess y x=true
 | [],[],_,h=>absurd rfl h
 | [],_::_,h,_=>by simp [Op.bytesLess] at h
 | _::_,[],_,_=>by simp [Op.bytesLess]
 | a::x,b::y,h,hne=>by
   unfold Op.bytesLess at h ⊢
   simp only [Bool.or_eq_false_iff,decide_eq_false_iff_not,Bool.and_eq_false_iff,beq_eq_false_iff_ne,Bool.or_eq_true,decide_eq_true_eq,Bool.and_eq_true,beq_iff_eq] at h ⊢
   by_cases hab:a=b
   ·subst hab
    refine .inr ⟨rfl,YG x y ?_ (fun e=>hne (by rw [e]))⟩
    rcases h.2 with h' | h'
    ·exact absurd rfl h'
    ·exact h'
   ·left
    rw [UInt8.lt_iff_toNat_lt] at h ⊢
    have:a.toNat≠b.toNat:=fun e=>hab (UInt8.toNat_inj.1 e)
    omega
theorem kZ {x y:ByteArray} (h:ltS x y=false) (hne:x≠y):ltS y x=true:=YG _ _ h (fun e=>hne (toList_inj e))
end Go.Proofs.YtdhfpgjnjlcciaaGreatDoor
end
section
namespace Go.Proofs.YtdhfpgjnjlcciaaGreatDoor
open Go.RowKit
def gtS (x y:ByteArray):Bool:=!(ltS x y || x.toList==y.toList)
theorem qN (x y:ByteArray):gtS x y=true ↔ ltS y x=true:=by
 unfold gtS
 constructor
 ·intro h
  simp only [Bool.not_eq_true',Bool.or_eq_false_iff] at h
  exact kZ h.1 (fun e=>by subst e;simp at h)
 ·intro h
  rw [zhQ h]
  have:(x.toList==y.toList)=false:=by
   cases e:x.toList==y.toList with
   | false=>rfl
   | true =>
     have:=toList_inj (eq_of_beq e)
     subst this
     rw [jL] at h;cases h
  rw [this];rfl
theorem ziZ {x y:ByteArray} (h:gtS x y=false) (hne:x≠y):ltS x y=true:=by
 cases h':ltS x y with
 | true=>rfl
 | false=>rw [(qN x y).2 (kZ h' hne)] at h;cases h
def findL:List Acct→ByteArray→Option Acct
 | [],_=>none
 | a::L,c=>if a.code=c then some a else findL L c
def belowL:List Acct→ByteArray→Nat
 | [],_=>0
 | a::L,c=>if gtS a.code c=true then 0 else belowL L c+1
def insL:List Acct→Acct→List Acct
 | [],x=>[x]
 | a::L,x=>if gtS a.code x.code=true then x::a::L else a::insL L x
def addE (L:List Acct) (a:Acct):Int:=if rightA a=false then 1 else if (findL L a.code).isSome=true then 7 else if 60≤L.length then 4 else 0
def addV (L:List Acct) (a:Acct):List Acct:=if addE L a=0 then insL L a else L
def riseL:List Acct→Bool
 | a::b::L=>ltS a.code b.code && riseL (b::L)
 | _=>true
theorem zbD (L:List Acct) (c:ByteArray):belowL L c≤L.length:=by
 induction L with
 | nil=>exact Nat.le_refl _
 | cons a L ih=>simp only [belowL];split <;> simp;omega
theorem Y9 (L:List Acct) (x:Acct):insL L x=L.take (belowL L x.code)++x::L.drop (belowL L x.code):=by
 induction L with
 | nil=>rfl
 | cons a L ih =>
   simp only [insL,belowL]
   split
   ·rfl
   ·rw [ih];simp
theorem zcb (L:List Acct) (x:Acct):(insL L x).length=L.length+1:=by
 induction L with
 | nil=>rfl
 | cons a L ih=>simp only [insL];split <;> simp [ih]
theorem xI {L:List Acct} {a:Acct} (h:addE L a=0):rightA a=true∧findL L a.code=none∧L.length < 60:=by
 unfold addE at h
 cases hr:rightA a with
 | false=>rw [hr] at h;simp at h
 | true =>
   rw [hr] at h
   simp only [Bool.true_eq_false,if_false] at h
   cases hf:findL L a.code with
   | some x=>rw [hf] at h;simp at h
   | none =>
     rw [hf] at h
     simp only [Option.isSome_none,Bool.false_eq_true,if_false] at h
     refine ⟨rfl,rfl,?_⟩
     split at h
     ·simp at h
     ·omega
theorem kj {L:List Acct} {c:ByteArray} {x:Acct} (h:findL L c=some x):x.code=c∧x∈L:=by
 induction L with
 | nil=>cases h
 | cons a L ih =>
   simp only [findL] at h
   split at h
   ·cases h;exact ⟨by assumption,List.mem_cons_self⟩
   ·exact ⟨(ih h).1,List.mem_cons_of_mem _ (ih h).2⟩
theorem zja {a:Acct} {L:List Acct} (h:riseL (a::L)=true):riseL L=true:=by
 cases L with
 | nil=>rfl
 | cons b L=>simp only [riseL,Bool.and_eq_true] at h;exact h.2
theorem Q2 (L:List Acct) (x:Acct) (hr:riseL L=true) (h:findL L x.code=none):riseL (insL L x)=true:=by
 induction L with
 | nil=>rfl
 | cons a L ih =>
   simp only [findL] at h
   split at h
   ·cases h
   ·rename_i hne
    simp only [insL]
    split
    ·rename_i hg
     simp only [riseL,Bool.and_eq_true]
     exact ⟨(qN _ _).1 hg,hr⟩
    ·rename_i hg
     have hlt:ltS a.code x.code=true:=ziZ (by simpa using hg) hne
     have ih':=ih (zja hr) h
     cases L with
     | nil=>simp [insL,riseL,hlt]
     | cons b L =>
       simp only [insL] at ih' ⊢
       split
       ·rename_i hg2
        rw [if_pos hg2] at ih'
        simp only [riseL,Bool.and_eq_true] at ih' ⊢
        exact ⟨hlt,ih'⟩
       ·rename_i hg2
        rw [if_neg hg2] at ih'
        simp only [riseL,Bool.and_eq_true] at hr
        cases hL:insL L x with
        | nil=>simp [riseL,hr.1]
        | cons c M =>
          rw [hL] at ih'
          simp only [riseL,Bool.and_eq_true] at ih' ⊢
          exact ⟨hr.1,ih'⟩
theorem Va {L:List Acct} {c:ByteArray} {i:Nat} {x:Acct} (hb:∀ (j:Nat) (y:Acct),j < i→L[j]?=some y→y.code≠c) (hx:L[i]?=some x) (h:x.code=c):findL L c=some x:=by
 induction L generalizing i with
 | nil=>simp at hx
 | cons a L ih =>
   cases i with
   | zero=>simp at hx;subst hx;simp [findL,h]
   | succ i =>
     have h0:=hb 0 a (by omega) rfl
     simp only [findL,if_neg h0]
     exact ih (i:=i) (fun j y hj hy=>hb (j+1) y (by omega) (by simpa using hy)) (by simpa using hx)
theorem zar {L:List Acct} {c:ByteArray} (h:∀ (j:Nat) (y:Acct),L[j]?=some y→y.code≠c):findL L c=none:=by
 induction L with
 | nil=>rfl
 | cons a L ih =>
   simp only [findL,if_neg (h 0 a rfl)]
   exact ih fun j y hy=>h (j+1) y (by simpa using hy)
theorem zhW {L:List Acct} {c:ByteArray} {i:Nat} {x:Acct} (hb:∀ (j:Nat) (y:Acct),j < i→L[j]?=some y→gtS y.code c=false) (hx:L[i]?=some x) (h:gtS x.code c=true):belowL L c=i:=by
 induction L generalizing i with
 | nil=>simp at hx
 | cons a L ih =>
   cases i with
   | zero=>simp at hx;subst hx;simp [belowL,h]
   | succ i =>
     have h0:=hb 0 a (by omega) rfl
     simp only [belowL,h0,Bool.false_eq_true,if_false]
     rw [ih (i:=i) (fun j y hj hy=>hb (j+1) y (by omega) (by simpa using hy)) (by simpa using hx)]
theorem zdZ {L:List Acct} {c:ByteArray} (h:∀ (j:Nat) (y:Acct),L[j]?=some y→gtS y.code c=false):belowL L c=L.length:=by
 induction L with
 | nil=>rfl
 | cons a L ih =>
   simp only [belowL,h 0 a rfl,Bool.false_eq_true,if_false]
   rw [ih fun j y hy=>h (j+1) y (by simpa using hy)]
   rfl
end Go.Proofs.YtdhfpgjnjlcciaaGreatDoor
end
section
namespace Go.Proofs.YtdhfpgjnjlcciaaGreatDoor.G
open Go.RowKit
class KeyO (κ:Type) where
 lt:κ→κ→Bool
 trans:∀ {x y z:κ},lt x y=true→lt y z=true→lt x z=true
 irr:∀ x:κ,lt x x=false
 total:∀ {x y:κ},lt x y=false→x≠y→lt y x=true
instance : KeyO ByteArray:=⟨ltS,yO,jL,kZ⟩
def ltP (x y:ByteArray × ByteArray):Bool:=ltS x.1 y.1 || (decide (x.1=y.1) && ltS x.2 y.2)
theorem VQ (x y:ByteArray × ByteArray):ltP x y=true ↔ ltS x.1 y.1=true∨(x.1=y.1∧ltS x.2 y.2=true):=by simp [ltP]
instance : KeyO (ByteArray × ByteArray) where
 lt:=ltP
 trans:=by
  intro x y z h1 h2
  rw [VQ] at *
  rcases h1 with h1 | ⟨e1,h1⟩ <;> rcases h2 with h2 | ⟨e2,h2⟩
  ·exact .inl (yO h1 h2)
  ·exact .inl (by rw [←e2];exact h1)
  ·exact .inl (by rw [e1];exact h2)
  ·exact .inr ⟨e1.trans e2,yO h1 h2⟩
 irr:=by intro x;simp [ltP,jL]
 total:=by
  intro x y h hne
  rw [VQ]
  simp only [ltP,Bool.or_eq_false_iff,Bool.and_eq_false_iff,decide_eq_false_iff_not] at h
  by_cases e:x.1=y.1
  ·refine .inr ⟨e.symm,kZ ?_ (fun e2=>hne (Prod.ext e e2))⟩
   rcases h.2 with h2 | h2
   ·exact absurd e h2
   ·exact h2
  ·exact .inl (kZ h.1 e)
section
variable {α κ:Type} [KeyO κ] (key:α→κ)
def placeK:List α→κ→Nat
 | [],_=>0
 | a::L,c=>if KeyO.lt (key a) c=true then placeK L c+1 else 0
def insK (L:List α) (x:α):List α:=L.take (placeK key L (key x))++x::L.drop (placeK key L (key x))
def riseK:List α→Bool
 | a::b::L=>KeyO.lt (key a) (key b) && riseK (b::L)
 | _=>true
variable {key}
theorem kT (L:List α) (c:κ):placeK key L c≤L.length:=by
 induction L with
 | nil=>exact Nat.le_refl _
 | cons a L ih=>simp only [placeK];split <;> simp;omega
theorem Zk (L:List α) (x:α):(insK key L x).length=L.length+1:=by
 have:=kT (key:=key) L (key x)
 simp [insK];omega
theorem kN (a x:α) (L:List α):insK key (a::L) x=if KeyO.lt (key a) (key x)=true then a::insK key L x else x::a::L:=by
 unfold insK
 simp only [placeK]
 split <;> simp
theorem J3 {L:List α} {x y:α}:y∈insK key L x ↔ y=x∨y∈L:=by
 unfold insK
 rw [List.mem_append,List.mem_cons]
 constructor
 ·rintro (h | h | h)
  ·exact .inr (List.mem_of_mem_take h)
  ·exact .inl h
  ·exact .inr (List.mem_of_mem_drop h)
 ·rintro (h | h)
  ·exact .inr (.inl h)
  ·rw [←List.take_append_drop (placeK key L (key x)) L,List.mem_append] at h
   rcases h with h | h
   ·exact .inl h
   ·exact .inr (.inr h)
theorem KC {p:α→Bool} (L:List α) {x:α} (h:p x=false):(insK key L x).filter p=L.filter p:=by
 unfold insK
 rw [List.filter_append,List.filter_cons,h]
 simp only [Bool.false_eq_true,if_false]
 rw [←List.filter_append,List.take_append_drop]
theorem Kl {p:α→Bool} (L:List α) {x:α} (h:p x=true):((insK key L x).filter p).length=(L.filter p).length+1:=by
 have e:(L.filter p).length=((L.take (placeK key L (key x))).filter p).length+((L.drop (placeK key L (key x))).filter p).length:=by
  rw [←List.length_append,←List.filter_append,List.take_append_drop]
 unfold insK
 rw [List.filter_append,List.filter_cons,h]
 simp only [if_true,List.length_append,List.length_cons]
 omega
theorem yE {a:α} {L:List α} (h:riseK key (a::L)=true):riseK key L=true:=by
 cases L with
 | nil=>rfl
 | cons b L=>simp only [riseK,Bool.and_eq_true] at h;exact h.2
theorem yT {a:α} {L:List α} (h:riseK key (a::L)=true):∀ y∈L,KeyO.lt (key a) (key y)=true:=by
 induction L generalizing a with
 | nil=>intro y hy;cases hy
 | cons b L ih =>
   simp only [riseK,Bool.and_eq_true] at h
   intro y hy
   rcases List.mem_cons.1 hy with rfl | hy
   ·exact h.1
   ·exact KeyO.trans h.1 (ih h.2 y hy)
theorem Jj {a:α} {L:List α} (h1:∀ y∈L,KeyO.lt (key a) (key y)=true) (h2:riseK key L=true):riseK key (a::L)=true:=by
 cases L with
 | nil=>rfl
 | cons b L=>simp only [riseK,Bool.and_eq_true];exact ⟨h1 b List.mem_cons_self,h2⟩
theorem qF {L:List α} (h:riseK key L=true) {i j:Nat} {x y:α} (hij:i < j) (hx:L[i]?=some x) (hy:L[j]?=some y):KeyO.lt (key x) (key y)=true:=by
 induction L generalizing i j with
 | nil=>simp at hx
 | cons a L ih =>
   cases j with
   | zero=>omega
   | succ j =>
     cases i with
     | zero =>
       simp at hx hy
       subst hx
       exact yT h y (List.mem_of_getElem? hy)
     | succ i =>
       simp at hx hy
       exact ih (yE h) (by omega) hx hy
theorem Qa {L:List α} (h:riseK key L=true) {x y:α} (hx:x∈L) (hy:y∈L) (e:key x=key y):x=y:=by
 obtain ⟨i,hi,hix⟩:=List.getElem_of_mem hx
 obtain ⟨j,hj,hjy⟩:=List.getElem_of_mem hy
 have h1:L[i]?=some x:=by rw [List.getElem?_eq_getElem hi,hix]
 have h2:L[j]?=some y:=by rw [List.getElem?_eq_getElem hj,hjy]
 rcases Nat.lt_trichotomy i j with hl | hl | hl
 ·have:=qF h hl h1 h2;rw [e,KeyO.irr] at this;cases this
 ·subst hl;rw [h1] at h2;exact Option.some.inj h2
 ·have:=qF h hl h2 h1;rw [e,KeyO.irr] at this;cases this
theorem x6 {L:List α} {c:κ} {i:Nat} (hi:i≤L.length) (hb:∀ (j:Nat) (y:α),j < i→L[j]?=some y→KeyO.lt (key y) c=true) (hx:∀ y,L[i]?=some y→KeyO.lt (key y) c=false):placeK key L c=i:=by
 induction L generalizing i with
 | nil=>simp at hi;subst hi;rfl
 | cons a L ih =>
   cases i with
   | zero=>simp only [placeK,hx a rfl,Bool.false_eq_true,if_false]
   | succ i =>
     simp only [placeK,hb 0 a (by omega) rfl,if_true]
     rw [ih (i:=i) (by simpa using hi) (fun j y hj hy=>hb (j+1) y (by omega) (by simpa using hy)) (fun y hy=>hx y (by simpa using hy))]
theorem xo {L:List α} {c:κ}:∀ (j:Nat) (y:α),j < placeK key L c→L[j]?=some y→KeyO.lt (key y) c=true:=by
 induction L with
 | nil=>intro j y _ h;simp at h
 | cons a L ih =>
   intro j y hj hy
   simp only [placeK] at hj
   split at hj
   ·cases j with
    | zero=>simp at hy;subst hy;assumption
    | succ j=>exact ih j y (by omega) (by simpa using hy)
   ·omega
theorem Yx {L:List α} {c:κ} {y:α} (h:L[placeK key L c]?=some y):KeyO.lt (key y) c=false:=by
 induction L with
 | nil=>simp at h
 | cons a L ih =>
   simp only [placeK] at h
   split at h
   ·exact ih (by simpa using h)
   ·simp at h;subst h;simp_all
theorem Y5 (L:List α) (x:α):(insK key L x).Perm (x::L):=by
 unfold insK
 refine (List.perm_middle).trans ?_
 rw [List.take_append_drop]
def insR (key:α→κ):List α→α→List α
 | [],x=>[x]
 | a::L,x=>if KeyO.lt (key x) (key a)=true then x::a::L else a::insR key L x
end
section
variable {α κ:Type} [DecidableEq κ] (key:α→κ)
def findK:List α→κ→Option α
 | [],_=>none
 | a::L,c=>if key a=c then some a else findK L c
variable {key}
theorem jf {L:List α} {c:κ} {x:α} (h:findK key L c=some x):key x=c∧x∈L:=by
 induction L with
 | nil=>cases h
 | cons a L ih =>
   simp only [findK] at h
   split at h
   ·cases h;exact ⟨by assumption,List.mem_cons_self⟩
   ·exact ⟨(ih h).1,List.mem_cons_of_mem _ (ih h).2⟩
theorem qH {L:List α} {c:κ} (h:findK key L c=none):∀ x∈L,key x≠c:=by
 induction L with
 | nil=>intro x hx;cases hx
 | cons a L ih =>
   simp only [findK] at h
   split at h
   ·cases h
   ·intro x hx
    rcases List.mem_cons.1 hx with rfl | hx
    ·assumption
    ·exact ih h x hx
theorem qx {L:List α} {c:κ} (h:∀ x∈L,key x≠c):findK key L c=none:=by
 cases hf:findK key L c with
 | none=>rfl
 | some x=>exact absurd (jf hf).1 (h x (jf hf).2)
end
section
variable {α κ:Type} [DecidableEq κ] [KeyO κ] {key:α→κ}
theorem vO (L:List α) (x:α) (c:κ) (h:findK key L (key x)=none):findK key (insK key L x) c=if key x=c then some x else findK key L c:=by
 induction L with
 | nil=>simp [insK,placeK,findK]
 | cons a L ih =>
   simp only [findK] at h
   split at h
   ·cases h
   ·rename_i hne
    rw [kN]
    split
    ·simp only [findK]
     rw [ih h]
     by_cases h1:key a=c
     ·have:key x≠c:=fun e=>hne (by rw [h1,e])
      simp [h1,this]
     ·simp [h1]
    ·simp [findK]
theorem Zz (L:List α) (x:α) (hr:riseK key L=true) (h:findK key L (key x)=none):riseK key (insK key L x)=true:=by
 induction L with
 | nil=>rfl
 | cons a L ih =>
   have hne:key a≠key x:=qH h a List.mem_cons_self
   rw [kN]
   split
   ·rename_i hg
    refine Jj (fun y hy=>?_) (ih (yE hr) (qx fun y hy=>qH h y (List.mem_cons_of_mem _ hy)))
    rcases J3.1 hy with rfl | hy
    ·exact hg
    ·exact yT hr y hy
   ·rename_i hg
    have hlt:KeyO.lt (key x) (key a)=true:=KeyO.total (by simpa using hg) hne
    simp only [riseK,Bool.and_eq_true]
    exact ⟨hlt,hr⟩
theorem jc {L:List α} (h:riseK key L=true) {x:α} (hx:x∈L):findK key L (key x)=some x:=by
 cases hf:findK key L (key x) with
 | none=>exact absurd rfl (qH hf x hx)
 | some y=>rw [Qa h (jf hf).2 hx (jf hf).1]
def isK (key:α→κ) (L:List α) (c:κ):Bool:=match L[placeK key L c]? with
 | some x=>decide (key x=c)
 | none=>false
theorem jE {L:List α} (h:riseK key L=true) (c:κ):isK key L c=(findK key L c).isSome∧(isK key L c=true→L[placeK key L c]?=findK key L c):=by
 unfold isK
 cases hp:L[placeK key L c]? with
 | none =>
   have hlen:L.length≤placeK key L c:=List.getElem?_eq_none_iff.1 hp
   have hf:findK key L c=none:=qx fun x hx e=>by
    obtain ⟨i,hi,hix⟩:=List.getElem_of_mem hx
    have:=xo (key:=key) (L:=L) (c:=c) i x (by omega) (by rw [List.getElem?_eq_getElem hi,hix])
    rw [e,KeyO.irr] at this;cases this
   rw [hf];exact ⟨rfl,fun h=>by cases h⟩
 | some x =>
   simp only
   by_cases e:key x=c
   ·have hm:=List.mem_of_getElem? hp
    have hf:=jc h hm
    rw [e] at hf
    rw [hf];exact ⟨by simp [e],fun _=>rfl⟩
   ·have hf:findK key L c=none:=qx fun y hy ey=>by
     obtain ⟨i,hi,hiy⟩:=List.getElem_of_mem hy
     have h1:L[i]?=some y:=by rw [List.getElem?_eq_getElem hi,hiy]
     rcases Nat.lt_trichotomy i (placeK key L c) with hl | hl | hl
     ·have:=xo (key:=key) (L:=L) (c:=c) i y hl h1;rw [ey,KeyO.irr] at this;cases this
     ·rw [hl,hp] at h1;cases h1;exact e ey
     ·have h2:=qF h hl hp h1
      rw [ey,Yx hp] at h2;cases h2
    rw [hf];exact ⟨by simp [e],fun h=>by simp [e] at h⟩
theorem JQ {L:List α} {x:α} (hr:riseK key L=true) (h:findK key L (key x)=none):insR key L x=insK key L x:=by
 induction L with
 | nil=>rfl
 | cons a L ih =>
   have hne:key a≠key x:=qH h a List.mem_cons_self
   rw [kN]
   simp only [insR]
   by_cases hl:KeyO.lt (key x) (key a)=true
   ·have:KeyO.lt (key a) (key x)=false:=by
     cases h2:KeyO.lt (key a) (key x) with
     | false=>rfl
     | true=>have:=KeyO.trans hl h2;rw [KeyO.irr] at this;cases this
    rw [if_pos hl,if_neg (by rw [this];simp)]
   ·have h2:=KeyO.total (by simpa using hl) (fun e=>hne e.symm)
    rw [if_neg hl,if_pos h2,ih (yE hr) (qx fun y hy=>qH h y (List.mem_cons_of_mem _ hy))]
end
end Go.Proofs.YtdhfpgjnjlcciaaGreatDoor.G
end
section
namespace Go.Proofs.YtdhfpgjnjlcciaaGreatDoor
open Go.RowKit
section
variable {α:Type} (key:α→ByteArray)
def findK:List α→ByteArray→Option α
 | [],_=>none
 | a::L,c=>if key a=c then some a else findK L c
def placeK:List α→ByteArray→Nat
 | [],_=>0
 | a::L,c=>if ltS (key a) c=true then placeK L c+1 else 0
def insK (L:List α) (x:α):List α:=L.take (placeK key L (key x))++x::L.drop (placeK key L (key x))
def riseK:List α→Bool
 | a::b::L=>ltS (key a) (key b) && riseK (b::L)
 | _=>true
variable {key}
theorem kT (L:List α) (c:ByteArray):placeK key L c≤L.length:=by
 induction L with
 | nil=>exact Nat.le_refl _
 | cons a L ih=>simp only [placeK];split <;> simp;omega
theorem Zk (L:List α) (x:α):(insK key L x).length=L.length+1:=by
 have:=kT (key:=key) L (key x)
 simp [insK];omega
theorem kN (a x:α) (L:List α):insK key (a::L) x=if ltS (key a) (key x)=true then a::insK key L x else x::a::L:=by
 unfold insK
 simp only [placeK]
 split <;> simp
theorem J3 {L:List α} {x y:α}:y∈insK key L x ↔ y=x∨y∈L:=by
 unfold insK
 rw [List.mem_append,List.mem_cons]
 constructor
 ·rintro (h | h | h)
  ·exact .inr (List.mem_of_mem_take h)
  ·exact .inl h
  ·exact .inr (List.mem_of_mem_drop h)
 ·rintro (h | h)
  ·exact .inr (.inl h)
  ·rw [←List.take_append_drop (placeK key L (key x)) L,List.mem_append] at h
   rcases h with h | h
   ·exact .inl h
   ·exact .inr (.inr h)
theorem KC {p:α→Bool} (L:List α) {x:α} (h:p x=false):(insK key L x).filter p=L.filter p:=by
 unfold insK
 rw [List.filter_append,List.filter_cons,h]
 simp only [Bool.false_eq_true,if_false]
 rw [←List.filter_append,List.take_append_drop]
theorem Kl {p:α→Bool} (L:List α) {x:α} (h:p x=true):((insK key L x).filter p).length=(L.filter p).length+1:=by
 have e:(L.filter p).length=((L.take (placeK key L (key x))).filter p).length+((L.drop (placeK key L (key x))).filter p).length:=by
  rw [←List.length_append,←List.filter_append,List.take_append_drop]
 unfold insK
 rw [List.filter_append,List.filter_cons,h]
 simp only [if_true,List.length_append,List.length_cons]
 omega
theorem jf {L:List α} {c:ByteArray} {x:α} (h:findK key L c=some x):key x=c∧x∈L:=by
 induction L with
 | nil=>cases h
 | cons a L ih =>
   simp only [findK] at h
   split at h
   ·cases h;exact ⟨by assumption,List.mem_cons_self⟩
   ·exact ⟨(ih h).1,List.mem_cons_of_mem _ (ih h).2⟩
theorem qH {L:List α} {c:ByteArray} (h:findK key L c=none):∀ x∈L,key x≠c:=by
 induction L with
 | nil=>intro x hx;cases hx
 | cons a L ih =>
   simp only [findK] at h
   split at h
   ·cases h
   ·intro x hx
    rcases List.mem_cons.1 hx with rfl | hx
    ·assumption
    ·exact ih h x hx
theorem qx {L:List α} {c:ByteArray} (h:∀ x∈L,key x≠c):findK key L c=none:=by
 cases hf:findK key L c with
 | none=>rfl
 | some x=>exact absurd (jf hf).1 (h x (jf hf).2)
theorem vO (L:List α) (x:α) (c:ByteArray) (h:findK key L (key x)=none):findK key (insK key L x) c=if key x=c then some x else findK key L c:=by
 induction L with
 | nil=>simp [insK,placeK,findK]
 | cons a L ih =>
   simp only [findK] at h
   split at h
   ·cases h
   ·rename_i hne
    rw [kN]
    split
    ·simp only [findK]
     rw [ih h]
     by_cases h1:key a=c
     ·have:key x≠c:=fun e=>hne (by rw [h1,e])
      simp [h1,this]
     ·simp [h1]
    ·simp [findK]
theorem yE {a:α} {L:List α} (h:riseK key (a::L)=true):riseK key L=true:=by
 cases L with
 | nil=>rfl
 | cons b L=>simp only [riseK,Bool.and_eq_true] at h;exact h.2
theorem yT {a:α} {L:List α} (h:riseK key (a::L)=true):∀ y∈L,ltS (key a) (key y)=true:=by
 induction L generalizing a with
 | nil=>intro y hy;cases hy
 | cons b L ih =>
   simp only [riseK,Bool.and_eq_true] at h
   intro y hy
   rcases List.mem_cons.1 hy with rfl | hy
   ·exact h.1
   ·exact yO h.1 (ih h.2 y hy)
theorem Jj {a:α} {L:List α} (h1:∀ y∈L,ltS (key a) (key y)=true) (h2:riseK key L=true):riseK key (a::L)=true:=by
 cases L with
 | nil=>rfl
 | cons b L=>simp only [riseK,Bool.and_eq_true];exact ⟨h1 b List.mem_cons_self,h2⟩
theorem Zz (L:List α) (x:α) (hr:riseK key L=true) (h:findK key L (key x)=none):riseK key (insK key L x)=true:=by
 induction L with
 | nil=>rfl
 | cons a L ih =>
   have hne:key a≠key x:=qH h a List.mem_cons_self
   rw [kN]
   split
   ·rename_i hg
    refine Jj (fun y hy=>?_) (ih (yE hr) (qx fun y hy=>qH h y (List.mem_cons_of_mem _ hy)))
    rcases J3.1 hy with rfl | hy
    ·exact hg
    ·exact yT hr y hy
   ·rename_i hg
    have hlt:ltS (key x) (key a)=true:=kZ (by simpa using hg) hne
    simp only [riseK,Bool.and_eq_true]
    exact ⟨hlt,hr⟩
theorem qF {L:List α} (h:riseK key L=true) {i j:Nat} {x y:α} (hij:i < j) (hx:L[i]?=some x) (hy:L[j]?=some y):ltS (key x) (key y)=true:=by
 induction L generalizing i j with
 | nil=>simp at hx
 | cons a L ih =>
   cases j with
   | zero=>omega
   | succ j =>
     cases i with
     | zero =>
       simp at hx hy
       subst hx
       exact yT h y (List.mem_of_getElem? hy)
     | succ i =>
       simp at hx hy
       exact ih (yE h) (by omega) hx hy
theorem Qa {L:List α} (h:riseK key L=true) {x y:α} (hx:x∈L) (hy:y∈L) (e:key x=key y):x=y:=by
 obtain ⟨i,hi,hix⟩:=List.getElem_of_mem hx
 obtain ⟨j,hj,hjy⟩:=List.getElem_of_mem hy
 have h1:L[i]?=some x:=by rw [List.getElem?_eq_getElem hi,hix]
 have h2:L[j]?=some y:=by rw [List.getElem?_eq_getElem hj,hjy]
 rcases Nat.lt_trichotomy i j with hl | hl | hl
 ·have:=qF h hl h1 h2;rw [e,jL] at this;cases this
 ·subst hl;rw [h1] at h2;exact Option.some.inj h2
 ·have:=qF h hl h2 h1;rw [e,jL] at this;cases this
theorem jc {L:List α} (h:riseK key L=true) {x:α} (hx:x∈L):findK key L (key x)=some x:=by
 cases hf:findK key L (key x) with
 | none=>exact absurd rfl (qH hf x hx)
 | some y=>rw [Qa h (jf hf).2 hx (jf hf).1]
theorem x6 {L:List α} {c:ByteArray} {i:Nat} (hi:i≤L.length) (hb:∀ (j:Nat) (y:α),j < i→L[j]?=some y→ltS (key y) c=true) (hx:∀ y,L[i]?=some y→ltS (key y) c=false):placeK key L c=i:=by
 induction L generalizing i with
 | nil=>simp at hi;subst hi;rfl
 | cons a L ih =>
   cases i with
   | zero=>simp only [placeK,hx a rfl,Bool.false_eq_true,if_false]
   | succ i =>
     simp only [placeK,hb 0 a (by omega) rfl,if_true]
     rw [ih (i:=i) (by simpa using hi) (fun j y hj hy=>hb (j+1) y (by omega) (by simpa using hy)) (fun y hy=>hx y (by simpa using hy))]
theorem xo {L:List α} {c:ByteArray}:∀ (j:Nat) (y:α),j < placeK key L c→L[j]?=some y→ltS (key y) c=true:=by
 induction L with
 | nil=>intro j y _ h;simp at h
 | cons a L ih =>
   intro j y hj hy
   simp only [placeK] at hj
   split at hj
   ·cases j with
    | zero=>simp at hy;subst hy;assumption
    | succ j=>exact ih j y (by omega) (by simpa using hy)
   ·omega
theorem Yx {L:List α} {c:ByteArray} {y:α} (h:L[placeK key L c]?=some y):ltS (key y) c=false:=by
 induction L with
 | nil=>simp at h
 | cons a L ih =>
   simp only [placeK] at h
   split at h
   ·exact ih (by simpa using h)
   ·simp at h;subst h;simp_all
def isK (key:α→ByteArray) (L:List α) (c:ByteArray):Bool:=match L[placeK key L c]? with
 | some x=>decide (key x=c)
 | none=>false
theorem jE {L:List α} (h:riseK key L=true) (c:ByteArray):isK key L c=(findK key L c).isSome∧(isK key L c=true→L[placeK key L c]?=findK key L c):=by
 unfold isK
 cases hp:L[placeK key L c]? with
 | none =>
   have hlen:L.length≤placeK key L c:=List.getElem?_eq_none_iff.1 hp
   have hf:findK key L c=none:=qx fun x hx e=>by
    obtain ⟨i,hi,hix⟩:=List.getElem_of_mem hx
    have:=xo (key:=key) (L:=L) (c:=c) i x (by omega) (by rw [List.getElem?_eq_getElem hi,hix])
    rw [e,jL] at this;cases this
   rw [hf];exact ⟨rfl,fun h=>by cases h⟩
 | some x =>
   simp only
   by_cases e:key x=c
   ·have hm:=List.mem_of_getElem? hp
    have hf:=jc h hm
    rw [e] at hf
    rw [hf];exact ⟨by simp [e],fun _=>rfl⟩
   ·have hf:findK key L c=none:=qx fun y hy ey=>by
     obtain ⟨i,hi,hiy⟩:=List.getElem_of_mem hy
     have h1:L[i]?=some y:=by rw [List.getElem?_eq_getElem hi,hiy]
     rcases Nat.lt_trichotomy i (placeK key L c) with hl | hl | hl
     ·have:=xo (key:=key) (L:=L) (c:=c) i y hl h1;rw [ey,jL] at this;cases this
     ·rw [hl,hp] at h1;cases h1;exact e ey
     ·have h2:=qF h hl hp h1
      rw [ey,Yx hp] at h2;cases h2
    rw [hf];exact ⟨by simp [e],fun h=>by simp [e] at h⟩
end
end Go.Proofs.YtdhfpgjnjlcciaaGreatDoor
end
section
namespace Go.Proofs.YtdhfpgjnjlcciaaGreatDoor
open Go.RowKit
theorem below_grown {B:Nat} {w wr w1:World} {e:TypeId} {size n:Nat} {v:Value} {xs:List Value} (hnx:Below B w wr) (hB:B≤wr.heap.size) (hown:wr.ownsRow B e size v n xs) (hg:wr.grownBy w1 v.ownBlock):Below B w w1 :=
 hnx.grown hg hB (fun j hj=>(hown.lt j hj).1)
structure RowIs (k:IntKind) (w:World) (a:Option Addr) (n:Nat) (l:List Int):Prop where
 len:l.length=n
 max:n≤maxLen
 cell:∀ i,i < n→∃ b o,a=some ⟨b,o,none⟩∧w.cell? ⟨b,o+i,none⟩=some (.int k (l.getD i 0))
theorem getD_at (l:List Int) (k:Nat) (hk:k < l.length):l.getD k 0=l[k]:=by simp [List.getD,hk]
theorem RowIs.keep {k:IntKind} {w w':World} {B:Nat} {a:Option Addr} {n:Nat} {l:List Int} (h:RowIs k w a n l) (hb:Below B w w') (hB:w.heap.size≤B):RowIs k w' a n l :=
 ⟨h.len,h.max,fun i hi=>by
  obtain ⟨b,o,e,hc⟩:=h.cell i hi
  exact ⟨b,o,e,(hb.cell (Nat.lt_of_lt_of_le (World.block_lt_of_cell? w _ hc) hB)).trans hc⟩⟩
section
variable {P:Program} {w:World} {ops:Array Oper} {rest:List Oper} {o:Oper} {a:Act} {Q:Exit→Act→World→Prop}
end
end Go.Proofs.YtdhfpgjnjlcciaaGreatDoor
end
section
namespace Go.Proofs.YtdhfpgjnjlcciaaGreatDoor
open Go.RowKit
def StrsV (w:World) (v:Value) (ws:List ByteArray):Prop :=
 ∃ a c,v=.slice a ws.length c∧ws.length≤c∧ws.length≤maxLen∧∀ i x,ws[i]?=some x→∃ b o,a=some ⟨b,o,none⟩∧w.cell? ⟨b,o+i,none⟩=some (.string x)
def LinesV (w:World) (v:Value) (L:List (Int × List ByteArray)):Prop :=
 ∃ a c,v=.slice a L.length c∧L.length≤maxLen∧∀ i x,L[i]?=some x→∃ b o u,a=some ⟨b,o,none⟩∧w.cell? ⟨b,o+i * 2,none⟩=some (.int .i64 x.1)∧w.cell? ⟨b,o+i * 2+1,none⟩=some u∧StrsV w u x.2
theorem StrsV.nil (w:World):StrsV w (.slice none 0 0) []:=⟨none,0,rfl,by simp,by simp,fun i x h=>by simp at h⟩
theorem LinesV.nil (w:World):LinesV w (.slice none 0 0) []:=⟨none,0,rfl,by simp,fun i x h=>by simp at h⟩
theorem StrsV.keep {w w':World} {v:Value} {ws:List ByteArray} (h:StrsV w v ws) (hb:Below w.heap.size w w'):StrsV w' v ws:=by
 obtain ⟨a,c,e,h1,h2,hc⟩:=h
 exact ⟨a,c,e,h1,h2,fun i x hx=>by
  obtain ⟨b,o,ea,hx'⟩:=hc i x hx
  exact ⟨b,o,ea,(hb.cell (World.block_lt_of_cell? w _ hx')).trans hx'⟩⟩
theorem zl (b o i:Nat):(⟨b,o,none⟩:Addr).add i=⟨b,o+i,none⟩:=by
 by_cases h0:i=0
 ·subst h0;simp [Addr.add]
 ·simp [Addr.add,h0]
def flatL (LV:List (Int × Value)):List Value:=LV.flatMap fun x=>[.int .i64 x.1,x.2]
theorem JV (LV:List (Int × Value)) (n:Int) (u:Value):flatL (LV++[(n,u)])=flatL LV++[.int .i64 n,u]:=by simp [flatL]
theorem K4:∀ (LV:List (Int × Value)) (i:Nat) (x:Int × Value),LV[i]?=some x→(flatL LV)[i * 2]?=some (.int .i64 x.1)∧(flatL LV)[i * 2+1]?=some x.2
 | [],i,x,h=>by simp at h
 | y::r,0,x,h=>by
   simp at h
   subst h
   exact ⟨rfl,rfl⟩
 | y::r,i+1,x,h=>by
   have ih:=K4 r i x (by simpa using h)
   have e:flatL (y::r)=.int .i64 y.1::y.2::flatL r:=rfl
   rw [e,show (i+1) * 2=i * 2+1+1 by omega,show i * 2+1+1+1=(i * 2+1)+1+1 by omega]
   simpa using ih
theorem jy {W:World} {B B':Nat} {e e':TypeId} {s s':Nat} {v v':Value} {n n':Nat} {xs xs':List Value} (h:W.ownsRow B e s v n xs) (h':W.ownsRow B' e' s' v' n' xs') (hne:e≠e'):v'.ownBlock=none∨v'.ownBlock≠v.ownBlock:=by
 rcases h'.2 with ⟨rfl,_⟩ | ⟨g',cap',cur',rfl,_,hg',_⟩
 ·exact .inl rfl
 ·refine .inr fun e0=>?_
  rcases h.2 with ⟨rfl,_⟩ | ⟨g,cap,cur,rfl,_,hg,_⟩
  ·simp [Value.ownBlock] at e0
  ·obtain rfl:g'=g:=by simpa [Value.ownBlock] using e0
   rw [hg] at hg'
   simp at hg'
   exact hne hg'.2
theorem yu {X Y:World} {B:Nat} {e:TypeId} {s:Nat} {v:Value} {n:Nat} {xs:List Value} {row:Option Nat} (h:X.ownsRow B e s v n xs) (hg:X.grownBy Y row) (hr:∀ r,row=some r→∃ o:Obj,X.heap[r]?=some o∧o.isCells=false):Y.ownsRow B e s v n xs:=by
 refine h.kept hg ?_
 rcases h.2 with ⟨rfl,_⟩ | ⟨g,cap,cur,rfl,_,hgb,_⟩
 ·exact .inl rfl
 ·refine .inr fun e'=>?_
  obtain ⟨o,ho,hc⟩:=hr g (by simpa [Value.ownBlock] using e'.symm)
  rw [hgb] at ho;cases ho;cases hc
theorem zu {X Y:World} {B:Nat} {e:TypeId} {s:Nat} {v:Value} {n:Nat} {xs:List Value} (h:X.ownsRow B e s v n xs) (hb:Below X.heap.size X Y):Y.ownsRow B e s v n xs :=
 h.kept (row:=none) ⟨hb.os,hb.tape,hb.output,hb.size,fun j hj _=>hb.block j hj⟩ (by
  cases v.ownBlock with
  | none=>exact .inl rfl
  | some g=>exact .inr (by simp))
theorem zw {X:World} {B B':Nat} {e:TypeId} {s:Nat} {v:Value} {n:Nat} {xs:List Value} (h:X.ownsRow B e s v n xs) (hB:B'≤B):X.ownsRow B' e s v n xs:=by
 refine ⟨h.1,?_⟩
 rcases h.2 with h0 | ⟨g,cap,cur,hv,hb,rest⟩
 ·exact .inl h0
 ·exact .inr ⟨g,cap,cur,hv,by omega,rest⟩
theorem zG {X Y:World} {B:Nat} {t:TypeId} {v:Value} (h:Boxed X B t v) (hb:Below X.heap.size X Y):Boxed Y B t v:=(hb.block B h.lt).trans h
theorem yj {X Y:World} (B:Nat) (hb:Below X.heap.size X Y):KeepsFrom B X Y :=
 ⟨hb.size,fun k _ _ h _=>(hb.block k (Array.getElem?_eq_some_iff.1 h).1).trans h⟩
def zP (W:World) (B:Nat) (e:TypeId) (LV:List (Int × Value)) (L:List (Int × List ByteArray)):Prop :=
 LV.length=L.length∧∀ (i:Nat) (x:Int × Value) (y:Int × List ByteArray),LV[i]?=some x→L[i]?=some y→x.1=y.1∧W.ownsRow B e 1 x.2 y.2.length (y.2.map Value.string)
theorem zP.mono {W W':World} {B:Nat} {e:TypeId} {LV:List (Int × Value)} {L:List (Int × List ByteArray)} (h:zP W B e LV L) (hk:∀ (u:Value) (n:Nat) (xs:List Value),W.ownsRow B e 1 u n xs→W'.ownsRow B e 1 u n xs):zP W' B e LV L :=
 ⟨h.1,fun i x y hx hy=>⟨(h.2 i x y hx hy).1,hk _ _ _ (h.2 i x y hx hy).2⟩⟩
theorem zP.nil (W:World) (B:Nat) (e:TypeId):zP W B e [] []:=⟨rfl,fun i x y h=>by simp at h⟩
theorem zP.snoc {W:World} {B:Nat} {e:TypeId} {LV:List (Int × Value)} {L:List (Int × List ByteArray)} (h:zP W B e LV L) (n:Int) (u:Value) (ws:List ByteArray) (hu:W.ownsRow B e 1 u ws.length (ws.map Value.string)):zP W B e (LV++[(n,u)]) (L++[(n,ws)]):=by
 refine ⟨by simp [h.1],fun i x y hx hy=>?_⟩
 by_cases hi:i < LV.length
 ·rw [List.getElem?_append_left hi] at hx
  rw [List.getElem?_append_left (by rw [←h.1];exact hi)] at hy
  exact h.2 i x y hx hy
 ·have hi':i=LV.length:=by
   have:=(List.getElem?_eq_some_iff.1 hx).1
   simp at this
   omega
  subst hi'
  simp at hx
  rw [h.1] at hy
  simp at hy
  subst hx hy
  exact ⟨rfl,hu⟩
theorem vu {W:World} {B:Nat} {e:TypeId} {u:Value} {ws:List ByteArray} (h:W.ownsRow B e 1 u ws.length (ws.map Value.string)):StrsV W u ws:=by
 have hw:=h
 rcases h.2 with ⟨rfl,hn⟩ | ⟨g,cap,cur,rfl,_,_,hnc,hcm,_⟩
 ·have:ws=[]:=List.eq_nil_of_length_eq_zero hn
  subst this
  exact StrsV.nil W
 ·refine ⟨_,cap,rfl,hnc,by omega,fun i x hx=>⟨g,0,rfl,?_⟩⟩
  have:=hw.cells (g:=g) rfl i (.string x) (by simp [hx])
  rwa [zl] at this
def Vo (W:World) (LV:List (Int × Value)) (L:List (Int × List ByteArray)):Prop :=
 LV.length=L.length∧∀ (i:Nat) (x:Int × Value) (y:Int × List ByteArray),LV[i]?=some x→L[i]?=some y→x.1=y.1∧StrsV W x.2 y.2
theorem zaf {W:World} {B:Nat} {e:TypeId} {v:Value} {LV:List (Int × Value)} {L:List (Int × List ByteArray)} (h:W.ownsRow B e 2 v LV.length (flatL LV)) (hw:Vo W LV L):LinesV W v L:=by
 have h0:=h
 rcases h.2 with ⟨rfl,hn⟩ | ⟨g,cap,cur,rfl,_,_,hnc,hcm,_⟩
 ·have:L=[]:=List.eq_nil_of_length_eq_zero (by rw [←hw.1];exact hn)
  subst this
  exact LinesV.nil W
 ·rw [hw.1]
  refine ⟨_,cap,rfl,by rw [←hw.1];omega,fun i y hy=>?_⟩
  have hi:i < LV.length:=by rw [hw.1];exact (List.getElem?_eq_some_iff.1 hy).1
  have hx:LV[i]?=some LV[i]:=List.getElem?_eq_getElem hi
  obtain ⟨e1,e2⟩:=hw.2 i _ y hx hy
  obtain ⟨f1,f2⟩:=K4 LV i _ hx
  have c1:=h0.cells (g:=g) rfl _ _ f1
  have c2:=h0.cells (g:=g) rfl _ _ f2
  rw [zl] at c1 c2
  exact ⟨g,0,_,rfl,by rw [←e1];exact c1,by rw [Nat.add_assoc];exact c2,e2⟩
theorem zP.isIn {W:World} {B:Nat} {e:TypeId} {LV:List (Int × Value)} {L:List (Int × List ByteArray)} (h:zP W B e LV L):Vo W LV L :=
 ⟨h.1,fun i x y hx hy=>⟨(h.2 i x y hx hy).1,vu (h.2 i x y hx hy).2⟩⟩
theorem YJ (w:World) (ws:List ByteArray) (t:TypeId) (hl:ws.length≤maxLen):StrsV (w.alloc (.cells (ws.map Value.string).toArray t)) (.slice (some ⟨w.heap.size,0,none⟩) ws.length ws.length) ws :=
 ⟨_,_,rfl,Nat.le_refl _,hl,fun i x hx=>⟨w.heap.size,0,rfl,by
  rw [Nat.zero_add,cell_of_row _ w.heap.size i _ t (0,0) (heap_alloc_new w _)]
  simp [hx]⟩⟩
theorem Ki {α:Type} (L:List α) (k:Nat) (h:k < L.length):L.take (k+1)=L.take k++[L[k]]:=List.take_succ_eq_append_getElem h
end Go.Proofs.YtdhfpgjnjlcciaaGreatDoor
end
section
namespace Go.Proofs.YtdhfpgjnjlcciaaGreatDoor
open Go.RowKit
structure Enc (α:Type) where
 cs:α→List Value
 k:Nat
 len:∀ a,(cs a).length=k
 pos:0 < k
 one:∀ a,∀ v∈cs a,v.oneCell'=true
section
variable {α:Type} {E:Enc α}
def ElAt (E:Enc α) (w:World) (b o:Nat) (a:α):Prop:=∀ (j:Nat) v,(E.cs a)[j]?=some v→w.cell? ⟨b,o+j,none⟩=some v
theorem ElAt.lt {w:World} {b o:Nat} {a:α} (h:ElAt E w b o a):b < w.heap.size:=by
 have h0:0 < (E.cs a).length:=by rw [E.len];exact E.pos
 exact World.block_lt_of_cell? w _ (h 0 _ (List.getElem?_eq_getElem h0))
theorem ElAt.keep {w w':World} {b o B:Nat} {a:α} (h:ElAt E w b o a) (hb:Below B w w') (hB:b < B):ElAt E w' b o a :=
 fun j v hj=>(hb.cell (p:=⟨b,_,none⟩) hB).trans (h j v hj)
theorem ElAt.beside {w w':World} {b o g:Nat} {a:α} (h:ElAt E w b o a) (hg:w.grownBy w' (some g)) (hn:∀ o v,w.cell? ⟨g,o,none⟩≠some v):ElAt E w' b o a:=by
 have h0:0 < (E.cs a).length:=by rw [E.len];exact E.pos
 have hne:some b≠some g:=fun e=>by
  cases e
  exact hn _ _ (h 0 _ (List.getElem?_eq_getElem h0))
 exact fun j v hj=>hg.cell (h j v hj) hne
def ElsV (E:Enc α) (w:World) (v:Value) (L:List α):Prop :=
 ∃ p c,v=.slice p L.length c∧L.length≤c∧c≤maxLen∧(p=none→c=0)∧∀ (i:Nat) (x:α),L[i]?=some x→∃ b o,p=some ⟨b,o,none⟩∧ElAt E w b (o+i * E.k) x
theorem ElsV.nil (w:World):ElsV E w (.slice none 0 0) []:=⟨none,0,rfl,by simp,by simp,fun _=>rfl,fun i x h=>by simp at h⟩
theorem ElsV.keep {w w':World} {v:Value} {L:List α} (h:ElsV E w v L) (hb:Below w.heap.size w w'):ElsV E w' v L:=by
 obtain ⟨a,c,e,h1,h2,h3,hc⟩:=h
 exact ⟨a,c,e,h1,h2,h3,fun i x hx=>by
  obtain ⟨b,o,ea,hx'⟩:=hc i x hx
  exact ⟨b,o,ea,hx'.keep hb hx'.lt⟩⟩
theorem ElsV.beside {w w':World} {g:Nat} {v:Value} {L:List α} (h:ElsV E w v L) (hg:w.grownBy w' (some g)) (hn:∀ o v,w.cell? ⟨g,o,none⟩≠some v):ElsV E w' v L:=by
 obtain ⟨p,c,e,h1,h2,h3,hc⟩:=h
 exact ⟨p,c,e,h1,h2,h3,fun i x hx=>by
  obtain ⟨b,o,e',hat⟩:=hc i x hx
  exact ⟨b,o,e',hat.beside hg hn⟩⟩
def flat (E:Enc α) (L:List α):List Value:=L.flatMap E.cs
theorem ja (a:α) (L:List α):flat E (a::L)=E.cs a++flat E L:=rfl
theorem jY (a:α):flat E [a]=E.cs a:=by simp [flat]
theorem qy (L M:List α):flat E (L++M)=flat E L++flat E M:=by simp [flat]
theorem qv (L:List α):(flat E L).length=L.length * E.k:=by
 induction L with
 | nil=>simp [flat]
 | cons a L ih=>rw [ja,List.length_append,ih,E.len,List.length_cons,Nat.succ_mul];omega
theorem jj:∀ (L:List α) (i:Nat) (x:α),L[i]?=some x→∀ (j:Nat) v,(E.cs x)[j]?=some v→(flat E L)[i * E.k+j]?=some v
 | [],i,x,h=>by simp at h
 | y::L,0,x,h=>by
   simp at h
   subst h
   intro j v hj
   have:j < (E.cs y).length:=(List.getElem?_eq_some_iff.1 hj).1
   rw [ja,Nat.zero_mul,Nat.zero_add,List.getElem?_append_left this];exact hj
 | y::L,i+1,x,h=>fun j v hj=>by
   have ih:=jj L i x (by simpa using h) j v hj
   rw [ja,show (i+1) * E.k+j=(E.cs y).length+(i * E.k+j) by rw [E.len,Nat.succ_mul];omega,List.getElem?_append_right (by omega)]
   simpa using ih
theorem zh3 {L:List α} {k:Nat} {v:Value} (h:(flat E L)[k]?=some v):∃ x,L[k / E.k]?=some x∧(E.cs x)[k % E.k]?=some v:=by
 have hk:k < L.length * E.k:=by rw [←qv];exact (List.getElem?_eq_some_iff.1 h).1
 have hi:k / E.k < L.length:=Nat.div_lt_of_lt_mul (by rw [Nat.mul_comm];exact hk)
 refine ⟨L[k / E.k],List.getElem?_eq_getElem hi,?_⟩
 have hj:k % E.k < (E.cs L[k / E.k]).length:=by rw [E.len];exact Nat.mod_lt _ E.pos
 have:=jj L (k / E.k) _ (List.getElem?_eq_getElem hi) (k % E.k) _ (List.getElem?_eq_getElem hj)
 rw [Nat.mul_comm,Nat.div_add_mod,h] at this
 rw [List.getElem?_eq_getElem hj,this]
theorem je (L:List α):∀ v∈flat E L,v.oneCell'=true:=by
 intro v hv
 obtain ⟨a,_,ha⟩:=List.mem_flatMap.1 hv
 exact E.one a v ha
theorem xO (L:List α) (k:Nat):flat E (L.take k)=(flat E L).take (k * E.k):=by
 induction L generalizing k with
 | nil=>simp [flat]
 | cons a L ih =>
   cases k with
   | zero=>simp [flat]
   | succ k =>
     rw [List.take_succ_cons,ja,ja,ih,List.take_append,E.len,show (k+1) * E.k - E.k=k * E.k by rw [Nat.succ_mul];omega,List.take_of_length_le (l:=E.cs a) (by rw [E.len,Nat.succ_mul];omega)]
theorem Zt (L:List α) (k:Nat):flat E (L.drop k)=(flat E L).drop (k * E.k):=by
 induction L generalizing k with
 | nil=>simp [flat]
 | cons a L ih =>
   cases k with
   | zero=>simp
   | succ k =>
     rw [List.drop_succ_cons,ja,ih,List.drop_append,E.len,show (k+1) * E.k - E.k=k * E.k by rw [Nat.succ_mul];omega,List.drop_of_length_le (l:=E.cs a) (by rw [E.len,Nat.succ_mul];omega),List.nil_append]
theorem ElsV.cells {w:World} {p:Option Addr} {n c:Nat} {L:List α} (h:ElsV E w (.slice p n c) L) (hL:L≠[]):∃ b o,p=some ⟨b,o,none⟩∧b < w.heap.size∧∀ (j:Nat) v,(flat E L)[j]?=some v→w.cell? ⟨b,o+j,none⟩=some v:=by
 obtain ⟨p',c',e,_,_,_,hc⟩:=h
 cases e
 cases L with
 | nil=>exact absurd rfl hL
 | cons a L =>
   obtain ⟨b,o,rfl,h0⟩:=hc 0 a rfl
   refine ⟨b,o,rfl,h0.lt,fun j v hj=>?_⟩
   obtain ⟨x,hx,hv⟩:=zh3 hj
   obtain ⟨b',o',e',h1⟩:=hc _ x hx
   cases e'
   have:=h1 _ v hv
   rwa [Nat.add_assoc,Nat.mul_comm,Nat.div_add_mod] at this
theorem zq {w:World} {B:Nat} {e:TypeId} {v:Value} {L:List α} (h:w.ownsRow B e E.k v L.length (flat E L)):ElsV E w v L:=by
 have h0:=h
 rcases h.2 with ⟨rfl,hn⟩ | ⟨g,cap,cur,rfl,_,_,hnc,hcm,_⟩
 ·have:L=[]:=List.eq_nil_of_length_eq_zero hn
  subst this
  exact ElsV.nil w
 ·refine ⟨_,cap,rfl,hnc,hcm,(fun e=>by cases e),fun i x hx=>⟨g,0,rfl,fun j u hj=>?_⟩⟩
  have:=h0.cells (g:=g) rfl _ _ (jj L i x hx j u hj)
  rwa [zl,←Nat.add_assoc] at this
def BoxE (E:Enc α) (w:World) (b:Nat) (t:TypeId) (a:α):Prop:=w.heap[b]?=some (.cells (E.cs a).toArray t (0,0))
theorem BoxE.lt {w:World} {b:Nat} {t:TypeId} {a:α} (h:BoxE E w b t a):b < w.heap.size:=(Array.getElem?_eq_some_iff.1 h).1
theorem BoxE.keep {w w':World} {b B:Nat} {t:TypeId} {a:α} (h:BoxE E w b t a) (hb:Below B w w') (hB:b < B):BoxE E w' b t a:=(hb.block b hB).trans h
theorem BoxE.kept {w w':World} {b:Nat} {t:TypeId} {a:α} (h:BoxE E w b t a) (hb:Below w.heap.size w w'):BoxE E w' b t a:=h.keep hb h.lt
theorem BoxE.new (E:Enc α) (w:World) (a:α) (t:TypeId):BoxE E (w.alloc (.cells (E.cs a).toArray t)) w.heap.size t a:=heap_alloc_new w _
theorem BoxE.at0 {w:World} {b:Nat} {t:TypeId} {a:α} (h:BoxE E w b t a):ElAt E w b 0 a :=
 fun j v hj=>by rw [Nat.zero_add,cell_of_row _ b j _ t (0,0) h];simpa using hj
theorem QX (w:World) (g:Nat) (cs:Array Value):w.grownBy (w.setRow g cs) (some g) :=
 ⟨rfl,rfl,rfl,by simp [World.setRow],fun k _ hk=>setRow_other w g k cs (fun e=>hk (by rw [e]))⟩
theorem zY {P:Program} {ops:Array Oper} {rest:List Oper} {o:Oper} {act:Act} {w:World} {Q:Exit→Act→World→Prop} (hgd:o.guard=none) (ty:TypeId) (x y:Operand) (ho:o.op=.store ty x y)
 (g:Nat) (z a:α) (t:TypeId) (hx:act.eval x=.pointer (some ⟨g,0,none⟩)) (hy:act.eval y=.agg (E.cs a).toArray) (hg:BoxE E w g t z) (hi:(P.info? ty).map (·.size)=some E.k)
 (h:∀ w',BoxE E w' g t a→w.grownBy w' (some g)→wpList P ops Q rest (act.put o.dst undef) w'):wpList P ops Q (o::rest) act w :=
 wpList_store_row hgd ty x y ho g _ hx hy t _ hg (by rw [hi];simp [E.len]) (by simp [E.len]) (by simp only [List.all_toArray,List.all_eq_true];exact fun v hv=>E.one a v hv) (h _ (setRow_heap w g _ _ t _ hg) (QX w g _))
theorem jQ (E:Enc α) (w:World) (L:List α) (t:TypeId) (hl:L.length≤maxLen):ElsV E (w.alloc (.cells (flat E L).toArray t)) (.slice (some ⟨w.heap.size,0,none⟩) L.length L.length) L :=
 ⟨_,_,rfl,Nat.le_refl _,hl,(fun e=>by cases e),fun i x hx=>⟨w.heap.size,0,rfl,fun j v hj=>by
  rw [cell_of_row _ w.heap.size _ _ t (0,0) (heap_alloc_new w _),Nat.zero_add]
  simpa using jj L i x hx j v hj⟩⟩
end
end Go.Proofs.YtdhfpgjnjlcciaaGreatDoor
end
section
namespace Go.Proofs.YtdhfpgjnjlcciaaGreatDoor.Fl
open Go.RowKit
structure Flow where
 code:ByteArray
 kind:Int
theorem Flow.ext' {a b:Flow} (h0:a.code=b.code) (h1:a.kind=b.kind):a=b:=by
 cases a;cases b;simp_all
instance : DecidableEq Flow:=fun a b =>
 if h:a.code=b.code∧a.kind=b.kind then isTrue (Flow.ext' h.1 h.2)
 else isFalse fun e=>h (by subst e;exact ⟨rfl,rfl⟩)
def zeroF:Flow:=⟨⟨#[]⟩,0⟩
abbrev encF:Enc Flow:=⟨fun f=>[.string f.code,.int .i64 f.kind],2,fun _=>rfl,by decide,fun _ v hv=>by simp at hv;rcases hv with rfl | rfl <;> rfl⟩
abbrev FlowsV (w:World) (v:Value) (L:List Flow):Prop:=ElsV encF w v L
abbrev aggL (f:Flow):Value:=.agg #[.string f.code,.int .i64 f.kind]
theorem two {w:World} {b o:Nat} {f:Flow} (h:ElAt encF w b o f):w.cell? ⟨b,o,none⟩=some (.string f.code)∧w.cell? ⟨b,o+1,none⟩=some (.int .i64 f.kind):=⟨h 0 _ rfl,h 1 _ rfl⟩
theorem box {w:World} {b:Nat} {t:TypeId} {f:Flow} (h:BoxE encF w b t f):w.cell? ⟨b,0,none⟩=some (.string f.code)∧w.cell? ⟨b,1,none⟩=some (.int .i64 f.kind):=⟨h.at0 0 _ rfl,h.at0 1 _ rfl⟩
def rightF (f:Flow):Bool:=nmB f.code && decide (0≤f.kind) && decide (f.kind < 5)
def tFlow:ByteArray:=⟨#[102,108,111,119]⟩
def tOpen:ByteArray:=⟨#[111,112,101,110]⟩
def tMove:ByteArray:=⟨#[109,111,118,101]⟩
def tFx:ByteArray:=⟨#[102,120]⟩
def tScope:ByteArray:=⟨#[115,99,111,112,101]⟩
def tClose:ByteArray:=⟨#[99,108,111,115,101]⟩
def kindW (n:Int):ByteArray:=if n=0 then tOpen else if n=1 then tMove else if n=2 then tFx else if n=3 then tScope else tClose
def kindO (s:ByteArray):Int:=if s=tOpen then 0 else if s=tMove then 1 else if s=tFx then 2 else if s=tScope then 3 else if s=tClose then 4 else -1
def wordsF (f:Flow):List ByteArray:=if rightF f=true then [tFlow,f.code,kindW f.kind] else []
def parseF:List ByteArray→Flow × Int
 | [x,c,k]=>if x=tFlow∧rightF ⟨c,kindO k⟩=true then (⟨c,kindO k⟩,0) else (zeroF,5)
 | _=>(zeroF,5)
theorem qf {f:Flow} (h:rightF f=true):nmB f.code=true∧(f.kind=0∨f.kind=1∨f.kind=2∨f.kind=3∨f.kind=4):=by
 unfold rightF at h
 simp only [Bool.and_eq_true,decide_eq_true_eq] at h
 exact ⟨h.1.1,by omega⟩
theorem zdA {n:Int} (h:n=0∨n=1∨n=2∨n=3∨n=4):kindO (kindW n)=n:=by
 rcases h with rfl | rfl | rfl | rfl | rfl <;> decide
theorem zhr {s:ByteArray} (h:0≤kindO s):kindW (kindO s)=s:=by
 unfold kindO at h ⊢
 by_cases h0:s=tOpen
 ·subst h0;rfl
 by_cases h1:s=tMove
 ·subst h1;rfl
 by_cases h2:s=tFx
 ·subst h2;rfl
 by_cases h3:s=tScope
 ·subst h3;rfl
 by_cases h4:s=tClose
 ·subst h4;rfl
 ·rw [if_neg h0,if_neg h1,if_neg h2,if_neg h3,if_neg h4] at h;omega
theorem xM {f:Flow} (h:rightF f=true):wordsF f=[tFlow,f.code,kindW f.kind]:=by unfold wordsF;rw [if_pos h]
theorem xw {f:Flow} (h:rightF f=false):wordsF f=[]:=by unfold wordsF;rw [h];rfl
theorem zav (x c k:ByteArray):parseF [x,c,k]=if x=tFlow∧rightF ⟨c,kindO k⟩=true then (⟨c,kindO k⟩,0) else (zeroF,5):=rfl
theorem Yv {f:Flow} (h:rightF f=true):parseF (wordsF f)=(f,0):=by
 rw [xM h,zav,zdA (qf h).2,if_pos ⟨rfl,h⟩]
theorem kY (ws:List ByteArray):parseF ws=(zeroF,5)∨(wordsF (parseF ws).1=ws∧rightF (parseF ws).1=true∧(parseF ws).2=0):=by
 unfold parseF
 split
 ·rename_i x c k
  split
  ·rename_i h
   right
   obtain ⟨rfl,h2⟩:=h
   refine ⟨?_,h2,rfl⟩
   rw [xM h2]
   have h0:0≤kindO k:=by
    unfold rightF at h2
    simp only [Bool.and_eq_true,decide_eq_true_eq] at h2
    exact h2.1.2
   rw [zhr h0]
  ·exact .inl rfl
 ·exact .inl rfl
theorem zac {ws:List ByteArray} (h:ws.length≠3):parseF ws=(zeroF,5):=by
 match ws,h with
 | [],_ | [_],_ | [_,_],_ | _::_::_::_::_,_=>rfl
 | [_,_,_],h=>exact absurd rfl h
abbrev findF (L:List Flow) (c:ByteArray):Option Flow:=findK Flow.code L c
def ofF (L:List Flow) (k:Int):List ByteArray:=(L.filter fun f=>decide (f.kind=k)).map Flow.code
def hasF (L:List Flow) (k:Int):Bool:=decide (0 < (ofF L k).length)
def addE (L:List Flow) (f:Flow):Int:=if rightF f=false then 1 else if (isK Flow.code L f.code || (decide (f.kind≠1) && hasF L f.kind))=true then 7 else if 60≤L.length then 4 else 0
def addV (L:List Flow) (f:Flow):List Flow:=if addE L f=0 then insK Flow.code L f else L
def kindL (L:List Flow) (c:ByteArray):Int:=if isK Flow.code L c=true then ((L[placeK Flow.code L c]?).getD zeroF).kind else 0
def wholeF (L:List Flow):Bool:=hasF L 0 && hasF L 2 && hasF L 3 && hasF L 4
def onesF (L:List Flow):Prop:=∀ k:Int,(0≤k∧k < 5)→k≠1→(ofF L k).length≤1
instance (L:List Flow):Decidable (onesF L):=decidable_of_iff ((ofF L 0).length≤1∧(ofF L 2).length≤1∧(ofF L 3).length≤1∧(ofF L 4).length≤1) (by
 unfold onesF
 constructor
 ·rintro ⟨h0,h2,h3,h4⟩ k hk h1
  rcases (by omega:k=0∨k=2∨k=3∨k=4) with rfl | rfl | rfl | rfl <;> assumption
 ·intro h
  exact ⟨h 0 (by omega) (by omega),h 2 (by omega) (by omega),h 3 (by omega) (by omega),h 4 (by omega) (by omega)⟩)
def riseF (L:List Flow):Bool:=riseK Flow.code L && decide (onesF L)
theorem yx (L:List Flow) (k:Int):(ofF L k).length=(L.filter fun f=>decide (f.kind=k)).length:=by simp [ofF]
theorem mem_of {L:List Flow} {k:Int} {c:ByteArray}:c∈ofF L k ↔ ∃ f∈L,f.kind=k∧f.code=c:=by
 unfold ofF
 simp only [List.mem_map,List.mem_filter,decide_eq_true_eq]
 constructor
 ·rintro ⟨f,⟨h1,h2⟩,h3⟩;exact ⟨f,h1,h2,h3⟩
 ·rintro ⟨f,h1,h2,h3⟩;exact ⟨f,⟨h1,h2⟩,h3⟩
theorem xI {L:List Flow} {f:Flow} (hr:riseK Flow.code L=true) (h:addE L f=0):rightF f=true∧findF L f.code=none∧(f.kind≠1→(ofF L f.kind).length=0)∧L.length < 60:=by
 unfold addE at h
 cases hrf:rightF f with
 | false=>rw [hrf] at h;simp at h
 | true =>
   rw [hrf] at h
   simp only [Bool.true_eq_false,if_false] at h
   cases hb:(isK Flow.code L f.code || (decide (f.kind≠1) && hasF L f.kind)) with
   | true=>rw [hb] at h;simp at h
   | false =>
     rw [hb] at h
     simp only [Bool.false_eq_true,if_false] at h
     rw [Bool.or_eq_false_iff] at hb
     refine ⟨rfl,?_,fun hk=>?_,?_⟩
     ·have:=(jE hr f.code).1
      rw [hb.1] at this
      cases hf:findF L f.code with
      | none=>rfl
      | some x =>
        have hf':findK Flow.code L f.code=some x:=hf
        rw [hf'] at this;cases this
     ·have h2:=hb.2
      rw [decide_eq_true hk,Bool.true_and] at h2
      unfold hasF at h2
      have:=of_decide_eq_false h2
      omega
     ·split at h
      ·simp at h
      ·omega
theorem ziJ {L:List Flow} {f:Flow} (h:onesF L) (hf:f.kind≠1→(ofF L f.kind).length=0):onesF (insK Flow.code L f):=by
 intro k hk h1
 rw [yx]
 by_cases e:f.kind=k
 ·rw [Kl L (by simpa using e),←yx]
  subst e
  rw [hf h1]
  exact Nat.le_refl _
 ·rw [KC L (by simpa using e),←yx]
  exact h k hk h1
theorem Q2 {L:List Flow} {f:Flow} (hr:riseF L=true) (h:addE L f=0):riseF (insK Flow.code L f)=true:=by
 unfold riseF at hr ⊢
 rw [Bool.and_eq_true,decide_eq_true_eq] at hr ⊢
 obtain ⟨_,h2,h3,_⟩:=xI hr.1 h
 exact ⟨Zz L f hr.1 h2,ziJ hr.2 h3⟩
theorem qm {L:List Flow} (h:riseF L=true):riseK Flow.code L=true:=by
 unfold riseF at h;rw [Bool.and_eq_true] at h;exact h.1
theorem QH {L:List Flow} (h:riseF L=true):onesF L:=by
 unfold riseF at h;rw [Bool.and_eq_true,decide_eq_true_eq] at h;exact h.2
def qb (L:List Flow):Nat→Bool
 | 0=>true
 | i+1=>qb L i && (decide ((i:Int)=1) || decide ((ofF L (i:Int)).length=1))
theorem zfX {L:List Flow} (h:onesF L):qb L 5=wholeF L:=by
 have h0:=h 0 (by omega) (by omega)
 have h2:=h 2 (by omega) (by omega)
 have h3:=h 3 (by omega) (by omega)
 have h4:=h 4 (by omega) (by omega)
 have e:∀ n:Nat,n≤1→decide (n=1)=decide (0 < n):=fun n hn=>by
  rw [Bool.eq_iff_iff];simp;omega
 simp [qb,wholeF,hasF,e _ h0,e _ h2,e _ h3,e _ h4]
end Go.Proofs.YtdhfpgjnjlcciaaGreatDoor.Fl
end
section
namespace Go.Proofs.YtdhfpgjnjlcciaaGreatDoor.Un
open Go.RowKit
structure Ent where
 code:ByteArray
 cur:ByteArray
structure Lin where
 acc:ByteArray
 flow:ByteArray
 goal:ByteArray
theorem Ent.ext' {a b:Ent} (h0:a.code=b.code) (h1:a.cur=b.cur):a=b:=by
 cases a;cases b;simp_all
theorem Lin.ext' {a b:Lin} (h0:a.acc=b.acc) (h1:a.flow=b.flow) (h2:a.goal=b.goal):a=b:=by
 cases a;cases b;simp_all
instance : DecidableEq Ent:=fun a b =>
 if h:a.code=b.code∧a.cur=b.cur then isTrue (Ent.ext' h.1 h.2)
 else isFalse fun e=>h (by subst e;exact ⟨rfl,rfl⟩)
instance : DecidableEq Lin:=fun a b =>
 if h:a.acc=b.acc∧a.flow=b.flow∧a.goal=b.goal then isTrue (Lin.ext' h.1 h.2.1 h.2.2)
 else isFalse fun e=>h (by subst e;exact ⟨rfl,rfl,rfl⟩)
def Lin.key (x:Lin):ByteArray × ByteArray:=(x.acc,x.flow)
abbrev encE:Enc Ent:=⟨fun e=>[.string e.code,.string e.cur],2,fun _=>rfl,by decide,fun _ v hv=>by simp at hv;rcases hv with rfl | rfl <;> rfl⟩
abbrev encL:Enc Lin:=⟨fun e=>[.string e.acc,.string e.flow,.string e.goal],3,fun _=>rfl,by decide,fun _ v hv=>by simp at hv;rcases hv with rfl | rfl | rfl <;> rfl⟩
abbrev encA:Enc Acct:=⟨Acct.cells,6,fun _=>rfl,by decide,fun a v hv=>by simp [Acct.cells] at hv;rcases hv with rfl | rfl | rfl | rfl | rfl | rfl <;> rfl⟩
abbrev emp:ByteArray:=⟨#[]⟩
structure Mast where
 chart:List Acct
 flows:List Fl.Flow
 ents:List Ent
 lines:List Lin
 cur:ByteArray
 res:ByteArray
 dif:ByteArray
 min:ByteArray
 stk:ByteArray
def zeroM:Mast:=⟨[],[],[],[],emp,emp,emp,emp,emp⟩
def zm:ByteArray:=⟨#[101,110,116,105,116,121]⟩
def tMap:ByteArray:=⟨#[109,97,112]⟩
def tGroup:ByteArray:=⟨#[103,114,111,117,112]⟩
def zI:ByteArray:=⟨#[114,101,115,101,114,118,101]⟩
def zD:ByteArray:=⟨#[100,105,102,102,101,114]⟩
def tMinor:ByteArray:=⟨#[109,105,110,111,114]⟩
def tStake:ByteArray:=⟨#[115,116,97,107,101]⟩
def lenW (h:ByteArray):Int :=
 if h=tGroup∨h=zI∨h=zD∨h=tMinor∨h=tStake then 2 else if h=zm then 3 else if h=tMap then 4 else 0
def wd (ws:List ByteArray) (i:Nat):ByteArray:=ws.getD i emp
def namesW (ws:List ByteArray):Bool:=(ws.drop 1).all nmB
def zj (ws:List ByteArray):Bool:=decide (0 < ws.length) && (decide ((ws.length:Int)=lenW (wd ws 0)) && namesW ws)
def entOf (ws:List ByteArray):Ent:=⟨wd ws 1,wd ws 2⟩
def linOf (ws:List ByteArray):Lin:=⟨wd ws 1,wd ws 2,wd ws 3⟩
def entE (L:List Ent) (x:Ent):Int:=if (G.findK Ent.code L x.code).isSome=true then 7 else if 60≤L.length then 4 else 0
def linEr (L:List Lin) (x:Lin):Int:=if (G.findK Lin.key L x.key).isSome=true then 7 else if 1000≤L.length then 4 else 0
def oneE (x:ByteArray):Int:=if x=emp then 0 else 7
def stepE (M:Mast) (ws:List ByteArray):Int :=
 if wd ws 0=zb then (if (parseA ws).2=0 then addE M.chart (parseA ws).1 else (parseA ws).2)
 else if wd ws 0=Fl.tFlow then (if (Fl.parseF ws).2=0 then Fl.addE M.flows (Fl.parseF ws).1 else (Fl.parseF ws).2)
 else if zj ws=false then 5
 else if wd ws 0=zm then entE M.ents (entOf ws)
 else if wd ws 0=tMap then linEr M.lines (linOf ws)
 else if wd ws 0=tGroup then oneE M.cur
 else if wd ws 0=zI then oneE M.res
 else if wd ws 0=zD then oneE M.dif
 else if wd ws 0=tMinor then oneE M.min
 else oneE M.stk
def stepV (M:Mast) (ws:List ByteArray):Mast :=
 if wd ws 0=zb then { M with chart:=insL M.chart (parseA ws).1 }
 else if wd ws 0=Fl.tFlow then { M with flows:=insK Fl.Flow.code M.flows (Fl.parseF ws).1 }
 else if wd ws 0=zm then { M with ents:=G.insK Ent.code M.ents (entOf ws) }
 else if wd ws 0=tMap then { M with lines:=G.insK Lin.key M.lines (linOf ws) }
 else if wd ws 0=tGroup then { M with cur:=wd ws 1 }
 else if wd ws 0=zI then { M with res:=wd ws 1 }
 else if wd ws 0=zD then { M with dif:=wd ws 1 }
 else if wd ws 0=tMinor then { M with min:=wd ws 1 }
 else { M with stk:=wd ws 1 }
def runM:Mast→List (List ByteArray)→Mast × Int
 | M,[]=>(M,0)
 | M,ws::r=>if stepE M ws=0 then runM (stepV M ws) r else (zeroM,stepE M ws)
def hasA (c:List Acct) (s:ByteArray):Bool:=(findL c s).isSome
def rolesN (M:Mast):Bool:=hasA M.chart M.res && hasA M.chart M.dif && hasA M.chart M.min && hasA M.chart M.stk
def lineN (M:Mast) (x:Lin):Bool:=hasA M.chart x.acc && isK Fl.Flow.code M.flows x.flow
def linesN (M:Mast):Bool:=M.lines.all (lineN M)
def plainA (c:List Acct) (s:ByteArray) (cls:Int):Bool:=decide ((findL c s).getD zeroA=⟨s,cls,false,false,emp,false⟩)
def rolesP (M:Mast):Bool:=plainA M.chart M.res 2 && plainA M.chart M.dif 0 && plainA M.chart M.min 2 && plainA M.chart M.stk 0
def allE (M:Mast):Int :=
 if (decide (M.cur=emp) || !rolesN M || !linesN M)=true then 6
 else if Fl.wholeF M.flows=false then 8
 else if rolesP M=false then 15 else 0
def endM (r:Mast × Int):Mast × Int:=if r.2=0 then (if allE r.1=0 then r else (zeroM,allE r.1)) else (zeroM,r.2)
def linesM (l:List (List ByteArray)):Mast × Int:=endM (runM zeroM l)
def wordsT (s:ByteArray):List (List ByteArray):=(asB (linV s.data.toList)).map (·.2)
def parseM (s:ByteArray):Mast × Int:=if linE s.data.toList=0 then linesM (wordsT s) else (zeroM,linE s.data.toList)
theorem xE (M:Mast) (ws:List ByteArray) (r:List (List ByteArray)) (h:stepE M ws=0):runM M (ws::r)=runM (stepV M ws) r:=by simp [runM,h]
theorem ZZ (M:Mast) (ws:List ByteArray) (r:List (List ByteArray)) (h:stepE M ws≠0):runM M (ws::r)=(zeroM,stepE M ws):=by simp [runM,h]
theorem YA (n:Int) (h:n≠0):endM (zeroM,n)=(zeroM,n):=by simp [endM,h]
theorem Q0 (M:Mast) (h:allE M≠0):endM (M,0)=(zeroM,allE M):=by simp [endM,h]
theorem Zl (M:Mast) (h:allE M=0):endM (M,0)=(M,0):=by simp [endM,h]
end Go.Proofs.YtdhfpgjnjlcciaaGreatDoor.Un
end
section
namespace Go.Proofs.YtdhfpgjnjlcciaaGreatDoor.Fl
open Go.RowKit
def cmpB (x y:ByteArray):Int:=Lib.compareBytes x.data.toList y.data.toList
theorem zan:∀ (x y:List UInt8),Lib.compareBytes x y < 0 ↔ Op.bytesLess x y=true
 | [],[]=>by simp [Lib.compareBytes,Op.bytesLess]
 | [],_::_=>by simp [Lib.compareBytes,Op.bytesLess]
 | _::_,[]=>by simp [Lib.compareBytes,Op.bytesLess]
 | a::x,b::y=>by
   have ih:=zan x y
   unfold Lib.compareBytes Op.bytesLess
   by_cases h1:a < b
   ·simp [h1]
   ·by_cases h2:b < a
    ·have:(a==b)=false:=by
      rw [beq_eq_false_iff_ne]
      rintro rfl
      exact h1 h2
     simp [h1,h2,this]
    ·have:a=b:=by
      rw [UInt8.lt_iff_toNat_lt] at h1 h2
      exact UInt8.toNat_inj.1 (by omega)
     subst this
     simp [h1,ih]
theorem vv:∀ (x y:List UInt8),Lib.compareBytes x y=0 ↔ x=y
 | [],[]=>by simp [Lib.compareBytes]
 | [],_::_=>by simp [Lib.compareBytes]
 | _::_,[]=>by simp [Lib.compareBytes]
 | a::x,b::y=>by
   have ih:=vv x y
   unfold Lib.compareBytes
   by_cases h1:a < b
   ·have:a≠b:=by
     rintro rfl
     rw [UInt8.lt_iff_toNat_lt] at h1;omega
    simp [h1,this]
   ·by_cases h2:b < a
    ·have:a≠b:=by
      rintro rfl
      exact h1 h2
     simp [h1,h2,this]
    ·have:a=b:=by
      rw [UInt8.lt_iff_toNat_lt] at h1 h2
      exact UInt8.toNat_inj.1 (by omega)
     subst this
     simp [h1,ih]
theorem Zx (x y:ByteArray):decide (cmpB x y < 0)=ltS x y:=by
 rw [Bool.eq_iff_iff,decide_eq_true_eq]
 unfold cmpB ltS
 rw [zan,ByteArray.toList_eq,ByteArray.toList_eq]
theorem Qs (x y:ByteArray):(cmpB x y==0)=decide (x=y):=by
 rw [Bool.eq_iff_iff,beq_iff_eq,decide_eq_true_eq]
 unfold cmpB
 rw [vv]
 exact ⟨fun h=>toList_inj (by rw [ByteArray.toList_eq,ByteArray.toList_eq];exact h),fun h=>by rw [h]⟩
set_option maxHeartbeats 1000000 in
set_option maxRecDepth 100000 in
theorem Ju (a b:ByteArray) (w:World) :
 Calls Tryz.prog 154 #[.string a,.string b] w fun e w'=>e=.returned (.int .i64 (cmpB a b))∧w'=w:=by
 go_enter Tryz.func154,Tryz.ntmps154
 go_wp2
 rw [run_callFunc_extern Tryz.func188 (by kernel_rfl) (by kernel_rfl) (by kernel_rfl) (e:=Extern.BytealgCompare.compare) (by kernel_rfl),Lib.run_compareString]
 simp only [Result.andThen]
 rw [Oper.upon_value]
 go_wp2
 go_ret
 exact ⟨rfl,rfl⟩
set_option maxHeartbeats 1000000 in
theorem qM (a b:ByteArray) (w:World) :
 Calls Tryz.prog 106 #[.string a,.string b] w fun e w'=>e=.returned (.int .i64 (cmpB a b))∧w'=w:=by
 go_enter Tryz.func106,Tryz.ntmps106
 go_wp2_with (go_at_call 154;refine (Ju _ _ _).mono ?_;rintro e w' ⟨rfl,rfl⟩)
 go_ret
 exact ⟨rfl,rfl⟩
set_option maxHeartbeats 1000000 in
theorem kE (f:Flow) (c:ByteArray) (w:World) :
 Calls Tryz.prog 122 #[aggL f,.string c] w fun e w'=>e=.returned (.int .i64 (cmpB f.code c))∧Below w.heap.size w w':=by
 have HB:=Lib.hid ((Below.refl w.heap.size w).alloc (Nat.le_refl _) (.cells #[.string f.code,.int .i64 f.kind] 81))
 go_enter Tryz.func122,Tryz.ntmps122
 go_wp2_with (go_at_call 106;refine (qM _ _ _).mono ?_;rintro e w' ⟨rfl,rfl⟩)
 go_ret
 exact ⟨rfl,HB.out⟩
structure kO (w wr:World) (L:List Flow) (c:ByteArray) (lo hi:Nat):Prop where
 le:lo≤hi
 top:hi≤L.length
 bel:Below w.heap.size w wr
 low:∀ (t:Nat) (x:Flow),t < lo→L[t]?=some x→ltS x.code c=true
 high:∀ (t:Nat) (x:Flow),hi≤t→L[t]?=some x→ltS x.code c=false
set_option maxRecDepth 100000 in
set_option maxHeartbeats 4000000 in
theorem xy (v:Value) (L:List Flow) (c:ByteArray) (w:World) (h:FlowsV w v L) (hr:riseK Flow.code L=true) (hL:L.length≤1000) :
 Calls Tryz.prog 121 #[v,.string c,.func (.func 122) #[] #[]] w fun e w'=>e=.returned (.tuple #[.int .i64 (placeK Flow.code L c:Nat),.bool (isK Flow.code L c)])∧Below w.heap.size w w':=by
 obtain ⟨p,cap,rfl,hcap,hm,_,hc⟩:=h
 obtain ⟨n,hn⟩:∃ n,L.length=n:=⟨_,rfl⟩
 obtain ⟨pl,hpl⟩:∃ pl,placeK Flow.code L c=pl:=⟨_,rfl⟩
 obtain ⟨is,his⟩:∃ is,isK Flow.code L c=is:=⟨_,rfl⟩
 rw [hn] at hcap hL ⊢
 rw [hpl,his]
 have HC:=Lib.hid hc
 have HN:=Lib.hid hn
 have HPL:=Lib.hid hpl
 have HIS:=Lib.hid his
 have HRI:=Lib.hid hr
 unfold maxLen at hm
 clear hc hn hpl his hr
 go_enter Tryz.func121,Tryz.ntmps121
 go_wp2
 go_loopg [9,10] n (fun kx s9 s10 wr=>∃ lo hi:Nat,s9=.int .i64 (lo:Int)∧s10=.int .i64 (hi:Int)∧hi - lo≤kx∧lo≤hi∧hi≤n∧Hid (kO w wr L c lo hi))
 case atStart=>exact ⟨0,n,rfl,rfl,by omega,Nat.zero_le _,Nat.le_refl _,Lib.hid ⟨Nat.zero_le _,by rw [HN.out];exact Nat.le_refl _,Below.refl _ _,fun t x ht=>absurd ht (Nat.not_lt_zero _),fun t x ht hx=>by
  have:=(List.getElem?_eq_some_iff.1 hx).1
  rw [HN.out] at this;omega⟩⟩
 case round =>
  obtain ⟨lo,hi,rfl,rfl,hkx,hlh,hin,HA⟩:=hrel
  by_cases hlt:lo < hi
  ·have hmid:(lo+hi) / 2 < n:=by omega
   obtain ⟨x,hx⟩:∃ x,L[(lo+hi) / 2]?=some x:=⟨_,List.getElem?_eq_getElem (by rw [HN.out];exact hmid)⟩
   obtain ⟨b,o,rfl,hat⟩:=HC.out _ x hx
   obtain ⟨c0,c1⟩:=two (hat.keep HA.out.bel hat.lt)
   have HX:=Lib.hid hx
   clear hx hat
   have HAG:=Lib.hid (kE x c wr)
   obtain ⟨m,hmm⟩:∃ m,cmpB x.code c=m:=⟨_,rfl⟩
   have HM:=Lib.hid (Zx x.code c)
   rw [hmm] at HAG HM
   clear hmm
   by_cases hm0:m < 0
   ·have HLT:Hid (ltS x.code c=true):=Lib.hid (by rw [←HM.out];exact decide_eq_true hm0)
    go_wp2_with (go_at_call 122;refine HAG.out.mono ?_;rintro e w' ⟨rfl,hb'⟩)
    go_roundg (hi - ((lo+hi) / 2+1))
    case measure=>omega
    case rel=>exact ⟨(lo+hi) / 2+1,hi,by rw [show ((lo:Int)+(hi:Int)) / 2+1=(((lo+hi) / 2+1:Nat):Int) by omega],rfl,Nat.le_refl _,by omega,hin,Lib.hid ⟨by omega,HA.out.top,HA.out.bel.trans (hb'.mono HA.out.bel.size),fun t y ht hy=>by
     rcases Nat.lt_or_ge t ((lo+hi) / 2) with h | h
     ·exact yO (qF HRI.out h hy HX.out) HLT.out
     ·obtain rfl:t=(lo+hi) / 2:=by omega
      rw [HX.out] at hy;cases hy;exact HLT.out,HA.out.high⟩⟩
   ·have HLT:Hid (ltS x.code c=false):=Lib.hid (by rw [←HM.out];exact decide_eq_false hm0)
    go_wp2_with (go_at_call 122;refine HAG.out.mono ?_;rintro e w' ⟨rfl,hb'⟩)
    go_roundg ((lo+hi) / 2 - lo)
    case measure=>omega
    case rel=>exact ⟨lo,(lo+hi) / 2,rfl,by rw [show ((lo:Int)+(hi:Int)) / 2=(((lo+hi) / 2:Nat):Int) by omega],Nat.le_refl _,by omega,by omega,Lib.hid ⟨by omega,by have:=HA.out.top;omega,HA.out.bel.trans (hb'.mono HA.out.bel.size),HA.out.low,fun t y ht hy=>by
     rcases Nat.lt_or_ge ((lo+hi) / 2) t with h | h
     ·cases hy':ltS y.code c with
      | false=>rfl
      | true=>rw [yO (qF HRI.out h HX.out hy) hy'] at HLT;cases HLT.out
     ·obtain rfl:t=(lo+hi) / 2:=by omega
      rw [HX.out] at hy;cases hy;exact HLT.out⟩⟩
  ·obtain rfl:hi=lo:=by omega
   have hpl:Hid (pl=hi):=Lib.hid (by
    rw [←HPL.out]
    exact x6 HA.out.top HA.out.low (fun y hy=>HA.out.high hi y (Nat.le_refl _) hy))
   by_cases hn:hi < n
   ·obtain ⟨x,hx⟩:∃ x,L[hi]?=some x:=⟨_,List.getElem?_eq_getElem (by rw [HN.out];exact hn)⟩
    obtain ⟨b,o,rfl,hat⟩:=HC.out _ x hx
    obtain ⟨c0,c1⟩:=two (hat.keep HA.out.bel hat.lt)
    have HX:=Lib.hid hx
    clear hx hat
    have HAG:=Lib.hid (kE x c wr)
    obtain ⟨m,hmm⟩:∃ m,cmpB x.code c=m:=⟨_,rfl⟩
    have HM:=Lib.hid (Qs x.code c)
    rw [hmm] at HAG HM
    clear hmm
    have HI2:Hid (is=(m==0)):=Lib.hid (by
     rw [←HIS.out,HM.out]
     unfold isK
     rw [HPL.out,hpl.out,HX.out])
    go_wp2_with (go_at_call 122;refine HAG.out.mono ?_;rintro e w' ⟨rfl,hb'⟩)
    go_ret2
    exact ⟨by rw [hpl.out,HI2.out];rfl,HA.out.bel.trans (hb'.mono HA.out.bel.size)⟩
   ·have HI2:Hid (is=false):=Lib.hid (by
     rw [←HIS.out]
     unfold isK
     rw [HPL.out,hpl.out,List.getElem?_eq_none (by rw [HN.out];omega)])
    go_wp2
    go_ret2
    exact ⟨by rw [hpl.out,HI2.out];rfl,HA.out.bel⟩
set_option maxRecDepth 100000 in
set_option maxHeartbeats 4000000 in
theorem VE (v:Value) (L:List Flow) (c:ByteArray) (w:World) (h:FlowsV w v L) (hr:riseK Flow.code L=true) (hL:L.length≤1000) :
 Calls Tryz.prog 83 #[v,.string c] w fun e w'=>e=.returned (.tuple #[.int .i64 (placeK Flow.code L c:Nat),.bool (isK Flow.code L c)])∧Below w.heap.size w w':=by
 have HS:=Lib.hid (xy v L c w h hr hL)
 obtain ⟨pl,hpl⟩:∃ pl,placeK Flow.code L c=pl:=⟨_,rfl⟩
 obtain ⟨is,his⟩:∃ is,isK Flow.code L c=is:=⟨_,rfl⟩
 rw [hpl,his] at HS ⊢
 clear hpl his h hr
 go_enter Tryz.func83,Tryz.ntmps83
 go_wp2_with (go_at_call 121;refine HS.out.mono ?_;rintro e w' ⟨rfl,hb'⟩)
 go_ret2
 exact ⟨rfl,hb'⟩
set_option maxRecDepth 100000 in
set_option maxHeartbeats 4000000 in
theorem QJ (v:Value) (L:List Flow) (c:ByteArray) (w:World) (h:FlowsV w v L) (hr:riseK Flow.code L=true) (hL:L.length≤1000) :
 Calls Tryz.prog 56 #[v,.string c] w fun e w'=>e=.returned (.tuple #[.int .i64 (kindL L c),.bool (isK Flow.code L c)])∧Below w.heap.size w w':=by
 have HP:=Lib.hid (VE v L c w h hr hL)
 obtain ⟨pl,hpl⟩:∃ pl,placeK Flow.code L c=pl:=⟨_,rfl⟩
 obtain ⟨is,his⟩:∃ is,isK Flow.code L c=is:=⟨_,rfl⟩
 obtain ⟨k,hk⟩:∃ k,kindL L c=k:=⟨_,rfl⟩
 rw [hpl,his] at HP
 rw [his,hk]
 have HPL:=Lib.hid hpl
 have HIS:=Lib.hid his
 have HK:=Lib.hid hk
 obtain ⟨p,cap,rfl,hcap,hm,_,hc⟩:=h
 unfold maxLen at hm
 have HC:=Lib.hid hc
 clear hpl his hk hc hr
 cases is with
 | false =>
   have hk0:Hid (k=0):=Lib.hid (by rw [←HK.out];unfold kindL;rw [HIS.out];rfl)
   go_enter Tryz.func56,Tryz.ntmps56
   go_wp2_with (go_at_call 83;refine HP.out.mono ?_;rintro e w' ⟨rfl,hb'⟩)
   go_ret2
   exact ⟨by rw [hk0.out];rfl,hb'⟩
 | true =>
   have hx:∃ x,L[pl]?=some x∧x.kind=k:=by
    have h1:=HIS.out
    have h2:=HK.out
    unfold kindL at h2
    rw [h1,HPL.out] at h2
    unfold isK at h1
    rw [HPL.out] at h1
    cases hx:L[pl]? with
    | none=>rw [hx] at h1;cases h1
    | some x=>rw [hx] at h2;exact ⟨x,rfl,h2⟩
   obtain ⟨x,hx,hxk⟩:=hx
   have hpn:pl < L.length:=(List.getElem?_eq_some_iff.1 hx).1
   obtain ⟨b,o,rfl,hat⟩:=HC.out _ x hx
   have HAT:=Lib.hid hat
   have HXK:=Lib.hid hxk
   obtain ⟨n,hn⟩:∃ n,L.length=n:=⟨_,rfl⟩
   rw [hn] at hpn hcap hL HP ⊢
   clear hx hat hxk hn
   go_enter Tryz.func56,Tryz.ntmps56
   go_wp2_with (go_at_call 83;refine HP.out.mono ?_;rintro e w' ⟨rfl,hb'⟩;obtain ⟨c0,c1⟩:=two (HAT.out.keep hb' HAT.out.lt))
   go_ret2
   exact ⟨by rw [←HXK.out];rfl,hb'⟩
end Go.Proofs.YtdhfpgjnjlcciaaGreatDoor.Fl
end
section
namespace Go.Proofs.YtdhfpgjnjlcciaaGreatDoor
open Go.RowKit
structure Past (w:World) where
 goal:World
 below:Below w.heap.size w goal
instance (w:World):Nonempty (Past w):=⟨⟨w,Below.refl _ _⟩⟩
theorem zS {P:Program} {id:Nat} {Q:Exit→Act→World→Prop} {a:Act} {w:World} {l:List Oper} (hm:P.follows .mixedOrders=true) (hB:Region.lexB .any l.toArray=true)
 (h:wpQuiet P l.toArray (fun w'=>∃ p:Past w,w'=p.goal) (fun a'=>∀ w',(∃ p:Past w,w'=p.goal)→Q .normal a' w') l a):(Code.region id l.toArray true).wp P Q a w :=
 wp_region_quiet (C:=fun w'=>∃ p:Past w,w'=p.goal) hm hB ⟨⟨w.drew,⟨rfl,rfl,rfl,Nat.le_refl _,fun _ _=>rfl⟩⟩,rfl⟩ (by simpa using h)
theorem za {w:World} {ad:Addr} {v:Value} (h:w.cell? ad=some v) (p:Past w):p.goal.cell? ad=some v :=
 (p.below.cell (World.block_lt_of_cell? w _ h)).trans h
theorem Calls.qi {P:Program} {f:FuncId} {args:Array Value} {w:World} {p:Past w} {v:Value} (h:Calls P f args p.goal fun e w'=>e=.returned v∧Below p.goal.heap.size p.goal w') :
 Calls P f args p.goal fun e w''=>e=.returned v∧∃ p':Past w,w''=p'.goal :=
 h.mono fun _ w'' ⟨he,hb⟩=>⟨he,⟨w'',p.below.trans (hb.mono p.below.size)⟩,rfl⟩
end Go.Proofs.YtdhfpgjnjlcciaaGreatDoor
end
section
namespace Go.Proofs.YtdhfpgjnjlcciaaGreatDoor.Un
open Go.RowKit
theorem ent2 {w:World} {b o:Nat} {f:Ent} (h:ElAt encE w b o f):w.cell? ⟨b,o,none⟩=some (.string f.code)∧w.cell? ⟨b,o+1,none⟩=some (.string f.cur):=⟨h 0 _ rfl,h 1 _ rfl⟩
theorem lin3 {w:World} {b o:Nat} {f:Lin} (h:ElAt encL w b o f):w.cell? ⟨b,o,none⟩=some (.string f.acc)∧w.cell? ⟨b,o+1,none⟩=some (.string f.flow)∧w.cell? ⟨b,o+2,none⟩=some (.string f.goal):=⟨h 0 _ rfl,h 1 _ rfl,h 2 _ rfl⟩
abbrev aggE (f:Ent):Value:=.agg #[.string f.code,.string f.cur]
abbrev aggN (f:Lin):Value:=.agg #[.string f.acc,.string f.flow,.string f.goal]
def cmpE (x y:Ent):Int:=Fl.cmpB x.code y.code
def cmpN (x y:Lin):Int:=if Fl.cmpB x.acc y.acc=0 then Fl.cmpB x.flow y.flow else Fl.cmpB x.acc y.acc
theorem zh0 (x y:Ent):decide (cmpE x y < 0)=G.KeyO.lt x.code y.code:=Fl.Zx _ _
theorem zbd (x y:Ent):(cmpE x y==0)=decide (x.code=y.code):=Fl.Qs _ _
theorem vq (x y:ByteArray):Fl.cmpB x y=0 ↔ x=y:=by
 have:=Fl.Qs x y
 rw [Bool.eq_iff_iff,beq_iff_eq,decide_eq_true_eq] at this
 exact this
theorem zdv (x y:Lin):decide (cmpN x y < 0)=G.KeyO.lt x.key y.key:=by
 show _=G.ltP x.key y.key
 unfold cmpN
 by_cases h:Fl.cmpB x.acc y.acc=0
 ·rw [if_pos h,Fl.Zx]
  have e:=(vq _ _).1 h
  unfold G.ltP Lin.key
  simp only [e,jL,decide_true,Bool.false_or,Bool.true_and]
 ·rw [if_neg h,Fl.Zx]
  have e:x.acc≠y.acc:=fun e=>h ((vq _ _).2 e)
  unfold G.ltP Lin.key
  simp only [e,decide_false,Bool.false_and,Bool.or_false]
theorem zcD (x y:Lin):(cmpN x y==0)=decide (x.key=y.key):=by
 rw [Bool.eq_iff_iff,beq_iff_eq,decide_eq_true_eq]
 unfold cmpN Lin.key
 by_cases h:Fl.cmpB x.acc y.acc=0
 ·rw [if_pos h,vq,Prod.mk.injEq]
  exact ⟨fun e=>⟨(vq _ _).1 h,e⟩,fun e=>e.2⟩
 ·rw [if_neg h,Prod.mk.injEq]
  exact ⟨fun e=>absurd e h,fun e=>absurd ((vq _ _).2 e.1) h⟩
set_option maxHeartbeats 1000000 in
theorem VV (x y:Ent) (w:World) :
 Calls Tryz.prog 130 #[aggE x,aggE y] w fun e w'=>e=.returned (.int .i64 (cmpE x y))∧Below w.heap.size w w':=by
 have HB:=Lib.hid (((Below.refl w.heap.size w).alloc (Nat.le_refl _) (.cells #[.string x.code,.string x.cur] 219)).alloc (by simp) (.cells #[.string y.code,.string y.cur] 219))
 go_enter Tryz.func130,Tryz.ntmps130
 go_wp2_with (go_at_call 106;refine (Fl.qM _ _ _).mono ?_;rintro e w' ⟨rfl,rfl⟩)
 go_ret
 exact ⟨rfl,HB.out⟩
def orI (x y:Int):Int:=if x=0 then y else x
set_option maxHeartbeats 1000000 in
theorem Z3 (x y:Int) (b:Nat) (w:World) (c0:w.cell? ⟨b,0,none⟩=some (.int .i64 x)) (c1:w.cell? ⟨b,1,none⟩=some (.int .i64 y)) :
 Calls Tryz.prog 105 #[.slice (some ⟨b,0,none⟩) 2 2] w fun e w'=>e=.returned (.int .i64 (orI x y))∧w'=w:=by
 by_cases hx:x=0
 ·subst hx
  by_cases hy:y=0
  ·subst hy
   go_enter Tryz.func105,Tryz.ntmps105
   go_wp2
   refine wp_loop_rounds 3 ?_
   rw [rounds_succ]
   go_wp2
   rw [rounds_succ]
   go_wp2
   rw [rounds_succ]
   go_wp2
   go_ret
   exact ⟨rfl,rfl⟩
  ·have e:orI 0 y=y:=by simp [orI]
   rw [e]
   go_enter Tryz.func105,Tryz.ntmps105
   go_wp2
   refine wp_loop_rounds 2 ?_
   rw [rounds_succ]
   go_wp2
   rw [rounds_succ]
   go_wp2
   go_ret
   exact ⟨rfl,rfl⟩
 ·have e:orI x y=x:=by simp [orI,hx]
  rw [e]
  go_enter Tryz.func105,Tryz.ntmps105
  go_wp2
  refine wp_loop_rounds 1 ?_
  rw [rounds_succ]
  go_wp2
  go_ret
  exact ⟨rfl,rfl⟩
end Go.Proofs.YtdhfpgjnjlcciaaGreatDoor.Un
end
section
namespace Go.Proofs.YtdhfpgjnjlcciaaGreatDoor
open Go.RowKit Go.Maps Go.WideElems Go.ChangeShapes Go.WideShapes Go.MapKept Go.ChangeMaps
section
variable {H:Type} {P:Program} {w:World} {t k e:TypeId} {R:Value→Option (DataW H × List MemPlace)} {b n:Nat} {D:DataW H}
theorem Js (w:World) {b:Nat} {es:Array MapEntry} {c:Nat} (hb:w.heap[b]?=some (.map es c)) (o:Obj):w.grownBy (setBlock w b o) (some b) :=
 ⟨rfl,rfl,rfl,by simp [setBlock],fun i _ hi=>heap_setBlock_other hb _ (fun e=>hi (by rw [e]))⟩
theorem zhc (w:World) (b:Nat) (o o':Obj):setBlock (setBlock w b o) b o'=setBlock w b o':=by
 unfold setBlock
 simp
theorem Zp {α:Type} {a a':α} {x y:World} {r:Result α} (h1:r=.ok a x) (h2:r=.ok a' y):x=y:=by
 rw [h1] at h2;injection h2
theorem zcS (h:w.ownsMap P k R b n D) (K:Keyed P k) (ht:P.underlying t=some (.map k e)) {z:Value} (hz:∀ u:World,(zeroValue e).run P u=.ok z u) {zd:DataW H} {zp:List MemPlace} (hzd:R z=some (zd,zp)) (hn:n < maxLen)
 {key:Value} {kl:Lit} (hkey:keyOf P k key=some kl) :
 ∃ (v0:Value) (st:Nat) (w1:World) (dv:DataW H),(Instr.mapEntry t (.map (some b)) key).run P w=.ok (.tuple #[v0,goInt st]) w1∧w.grownBy w1 (some b)∧w1.ownsMap P k R b (n+1) (D.put kl dv)∧dv=D.atKey kl zd ∧
   ∀ (val:Value) (d:DataW H) (ps:List MemPlace),R val=some (d,ps)→∃ w2,(Instr.entryStore t (.map (some b)) (goInt st) val).run P w1=.ok () w2∧w2.ownsMap P k R b (n+1) (D.put kl d)∧w1.grownBy w2 (some b):=by
 have h0:=h
 obtain ⟨es,clock,hb,F,hs,hD⟩:=h
 obtain ⟨s1,s2,_⟩:=F.stamped
 rcases K.find w hkey es.toList F.keys with ⟨h1,h2⟩ | ⟨j,e0,h1,h2,h3⟩
 ·have hup:∀ val,(Instr.mapUpdate t (.map (some b)) key val).run P w=.ok () (setBlock w b (.map (es.push ⟨key,val,clock⟩) (clock+1))):=fun val=>by
   simp [Instr.mapUpdate,run_underlying ht,MapKept.run_getObj_map hb,K.check w false hkey,h1,MapKept.run_setObj_map _ hb,Result.andThen,setBlock]
  have hat:D.atKey kl zd=zd:=by
   obtain ⟨v,ps,hr,hv⟩:=h0.lookup K ht (hz w) hzd hkey
   rcases Maps.fit_look false K ht (hz w) hb F hkey with ⟨_,_,hat⟩ | ⟨e1,y,he1,hk1,_⟩
   ·rw [hD];exact hat zd
   ·exact absurd hk1 (h2 e1 he1)
  refine ⟨z,clock,setBlock w b (.map (es.push ⟨key,z,clock⟩) (clock+1)),zd,?_,Js w hb _,?_,hat.symm,fun val d ps hv=>?_⟩
  ·simp [Instr.mapEntry,run_underlying ht,MapKept.run_getObj_map hb,K.check w false hkey,h1,hz,MapKept.run_setObj_map _ hb,Result.andThen,setBlock]
  ·obtain ⟨w',hr,ho,_⟩:=h0.update K ht hn hkey hzd
   rw [Zp (hup z) hr];exact ho
  ·obtain ⟨w',hr,ho,_⟩:=h0.update K ht hn hkey hv
   have hidx:(es.push ⟨key,z,clock⟩).findIdx? (fun e=>((e.born:Nat):Int)==((clock:Nat):Int))=some es.size:=by
    rw [findIdx_arr]
    exact findIdx_born (l:=(es.push ⟨key,z,clock⟩).toList) (j:=es.size) (e0:=⟨key,z,clock⟩) (by
     simp only [Array.toList_push,List.map_append,List.map_cons,List.map_nil]
     refine List.nodup_append.2 ⟨s2,by simp,fun a ha c hc e1=>?_⟩
     simp only [List.mem_singleton] at hc
     obtain ⟨x,hx,rfl⟩:=List.mem_map.1 ha
     have:=s1 x hx
     omega) (by simp)
   have hmod:(es.push ⟨key,z,clock⟩).modify es.size (fun e=>{ e with val:=val })=es.push ⟨key,val,clock⟩:=by
    apply Array.ext'
    rw [Array.toList_modify,Array.toList_push,Array.toList_push,←Array.length_toList,modify_last]
   have hw2:(setBlock w b (.map (es.push ⟨key,z,clock⟩) (clock+1))).heap[b]?=some (.map (es.push ⟨key,z,clock⟩) (clock+1)):=heap_setBlock_same hb _
   refine ⟨setBlock (setBlock w b (.map (es.push ⟨key,z,clock⟩) (clock+1))) b (.map (es.push ⟨key,val,clock⟩) (clock+1)),?_,?_,Js _ hw2 _⟩
   ·generalize setBlock w b (.map (es.push ⟨key,z,clock⟩) (clock+1))=w1 at hw2
    simp [Instr.entryStore,MapKept.run_getObj_map hw2,asInt,asIntOf,goInt,hidx,hmod,MapKept.run_setObj_map _ hw2,Result.andThen,setBlock]
   ·rw [zhc w b,Zp (hup val) hr];exact ho
 ·have hj:es[j]?=some e0:=by simpa using h2
  have hsame:es.modify j (fun e=>{ e with key:=key })=es:=by
   apply Array.ext'
   rw [Array.toList_modify,modify_eq_set _ _ _ _ h2]
   have:({ e0 with key:=key }:MapEntry)=e0:=by rw [←h3]
   rw [this]
   exact set_self _ _ _ h2
  have hup:∀ val,(Instr.mapUpdate t (.map (some b)) key val).run P w=.ok () (setBlock w b (.map (es.modify j (fun e'=>{ e' with key:=key,val:=val })) clock)):=fun val=>by
   simp [Instr.mapUpdate,run_underlying ht,MapKept.run_getObj_map hb,K.check w false hkey,h1,hj,h3,K.stays w hkey,MapKept.run_setObj_map _ hb,Result.andThen,setBlock]
  have hwb:setBlock w b (.map es clock)=w:=by
   unfold setBlock
   have:w.heap.setIfInBounds b (.map es clock)=w.heap:=by
    apply Array.ext_getElem?
    intro i
    by_cases hi:i=b
    ·subst hi
     have hlt:=(Array.getElem?_eq_some_iff.1 hb).1
     rw [Array.getElem?_setIfInBounds_self_of_lt hlt,hb]
    ·rw [Array.getElem?_setIfInBounds_ne (fun e=>hi e.symm)]
   rw [this]
  have hself:es.modify j (fun e'=>{ e' with key:=key,val:=e0.val })=es:=by
   apply Array.ext'
   rw [Array.toList_modify,modify_eq_set _ _ _ _ h2]
   have:({ e0 with key:=key,val:=e0.val }:MapEntry)=e0:=by rw [←h3]
   rw [this]
   exact set_self _ _ _ h2
  obtain ⟨dv,pv,hrv,hat⟩:∃ dv pv,R e0.val=some (dv,pv)∧dv=D.atKey kl zd:=by
   rcases Maps.fit_look false K ht (hz w) hb F hkey with ⟨_,hno,_⟩ | ⟨e1,y,he1,hk1,hrun,hRv,hat,_⟩
   ·exact absurd h3 (hno e0 (List.mem_of_getElem? h2))
   ·have he:e1=e0:=by
     have hnd:es.toList.Pairwise (fun x y=>x.key≠y.key):=((stamped_iff es clock).1 F.stamped).2.2
     by_cases heq:e1=e0
     ·exact heq
     ·obtain ⟨i1,hi1,hi1e⟩:=List.getElem_of_mem he1
      have hlt2:=(List.getElem?_eq_some_iff.1 h2).1
      have h2':es.toList[j]=e0:=(List.getElem?_eq_some_iff.1 h2).2
      have hp:=List.pairwise_iff_getElem.1 hnd
      rcases Nat.lt_trichotomy i1 j with hl | hl | hl
      ·exact absurd (by rw [hi1e,h2',hk1,h3]) (hp i1 j hi1 hlt2 hl)
      ·subst hl;rw [h2'] at hi1e;exact hi1e.symm
      ·exact absurd (by rw [hi1e,h2',hk1,h3]) (hp j i1 hlt2 hi1 hl)
    subst he
    exact ⟨y.1,y.2,hRv,by rw [hD];exact (hat zd).symm⟩
  refine ⟨e0.val,e0.born,w,dv,?_,World.grownBy.refl _ _,?_,hat,fun val d ps hv=>?_⟩
  ·conv=>rhs;rw [←hwb]
   simp [Instr.mapEntry,run_underlying ht,MapKept.run_getObj_map hb,K.check w false hkey,h1,hj,h3,K.stays w hkey,hsame,MapKept.run_setObj_map _ hb,Result.andThen,setBlock]
  ·obtain ⟨w',hr,ho,_⟩:=h0.update K ht hn hkey hrv
   have h4:=hup e0.val
   rw [hself,hwb] at h4
   rw [Zp h4 hr];exact ho
  ·obtain ⟨w',hr,ho,_⟩:=h0.update K ht hn hkey hv
   have hidx:es.findIdx? (fun e=>((e.born:Nat):Int)==((e0.born:Nat):Int))=some j:=by
    rw [findIdx_arr]
    exact findIdx_born s2 h2
   have hmod:es.modify j (fun e=>{ e with val:=val })=es.modify j (fun e'=>{ e' with key:=key,val:=val }):=by
    apply Array.ext'
    rw [Array.toList_modify,Array.toList_modify,modify_eq_set _ _ _ _ h2,modify_eq_set _ _ _ _ h2,←h3]
   refine ⟨_,?_,(by rw [Zp (hup val) hr];exact ho),Js w hb _⟩
   simp [Instr.entryStore,MapKept.run_getObj_map hb,asInt,asIntOf,goInt,hidx,hmod,MapKept.run_setObj_map _ hb,Result.andThen,setBlock]
end
end Go.Proofs.YtdhfpgjnjlcciaaGreatDoor
end
