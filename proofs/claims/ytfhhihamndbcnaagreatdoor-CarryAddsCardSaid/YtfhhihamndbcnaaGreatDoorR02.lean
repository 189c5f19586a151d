/- LexPlain -/
import Derived.Lib.FieldsP
import Derived.Lib.IndexBytes
import Derived.Lib.IndexMore
import Derived.Test.YtfhhihamndbcnaaGreatDoorR01
namespace Go.Proofs.YtfhhihamndbcnaaGreatDoor
def mkB (l:List UInt8):ByteArray:=⟨l.toArray⟩
theorem mkB_list (s:ByteArray):mkB s.data.toList=s:=by simp [mkB]
theorem size_list (s:ByteArray):s.data.toList.length=s.size:=by rw [Array.length_toList];rfl
theorem mkB_size (l:List UInt8):(mkB l).size=l.length:=by simp [mkB,ByteArray.size]
theorem mkB_data (l:List UInt8):(mkB l).data.toList=l:=by simp [mkB]
def okB (c:UInt8):Bool:=c==9 || c==10 || (decide (32≤c.toNat) && decide (c.toNat≤126))
def okL (l:List UInt8):Bool:=l.all okB
def gapB (c:UInt8):Bool:=c==9 || c==32
def linesGo (cur:List UInt8):List UInt8→List (List UInt8)
 | []=>[cur]
 | c::r=>if c=10 then cur::linesGo [] r else linesGo (cur++[c]) r
def fieldsGo (cur:List UInt8):List UInt8→List (List UInt8)
 | []=>if cur=[] then [] else [cur]
 | c::r=>if gapB c then (if cur=[] then fieldsGo [] r else cur::fieldsGo [] r) else fieldsGo (cur++[c]) r
def said:List UInt8→List UInt8
 | []=>[]
 | c::r=>if c=35 then [] else c::said r
def wordsL (l:List UInt8):List (List UInt8):=fieldsGo [] (said l)
def enumL (n:Nat):List (List UInt8)→List (Nat × List UInt8)
 | []=>[]
 | x::r=>(n,x)::enumL (n+1) r
def numP (l:List (Nat × List UInt8)):List (Nat × List (List UInt8)):=l.flatMap fun x=>if wordsL x.2=[] then [] else [(x.1,wordsL x.2)]
def linesL (l:List UInt8):List (Nat × List (List UInt8)):=numP (enumL 1 (linesGo [] l))
def asB (L:List (Nat × List (List UInt8))):List (Int × List ByteArray):=L.map fun x=>((x.1:Int),x.2.map mkB)
def linE (l:List UInt8):Int:=if 20000 < l.length then 4 else if okL l then 0 else 5
def linV (l:List UInt8):List (Nat × List (List UInt8)):=if 20000 < l.length then [] else if okL l then linesL l else []
theorem numP_append (a b:List (Nat × List UInt8)):numP (a++b)=numP a++numP b:=by simp [numP]
theorem numP_hit (a:List (Nat × List UInt8)) (x:Nat × List UInt8) (h:wordsL x.2≠[]):numP (a++[x])=numP a++[(x.1,wordsL x.2)]:=by simp [numP,h]
theorem numP_miss (a:List (Nat × List UInt8)) (x:Nat × List UInt8) (h:wordsL x.2=[]):numP (a++[x])=numP a:=by simp [numP,h]
theorem numP_length (a:List (Nat × List UInt8)):(numP a).length≤a.length:=by
 induction a with
 | nil=>simp [numP]
 | cons x r ih =>
   have e:numP (x::r)=(if wordsL x.2=[] then [] else [(x.1,wordsL x.2)])++numP r:=by simp [numP]
   rw [e];simp only [List.length_append,List.length_cons]
   split <;> simp <;> omega
theorem asB_append (a b:List (Nat × List (List UInt8))):asB (a++b)=asB a++asB b:=by simp [asB]
theorem asB_length (a:List (Nat × List (List UInt8))):(asB a).length=a.length:=by simp [asB]
theorem enumL_length (n:Nat) (a:List (List UInt8)):(enumL n a).length=a.length:=by
 induction a generalizing n with
 | nil=>rfl
 | cons x r ih=>simp [enumL,ih]
theorem linesGo_no (cur u r:List UInt8) (h:10 ∉ u):linesGo cur (u++r)=linesGo (cur++u) r:=by
 induction u generalizing cur with
 | nil=>simp
 | cons c u ih =>
   have hc:c≠10:=fun e=>h (by simp [e])
   simp only [List.cons_append,linesGo,if_neg hc]
   rw [ih _ (fun e=>h (List.mem_cons_of_mem _ e))]
   simp
theorem linesGo_cut (u r:List UInt8) (h:10 ∉ u):linesGo [] (u++10::r)=u::linesGo [] r:=by
 rw [linesGo_no _ _ _ h];simp [linesGo]
theorem linesGo_last (u:List UInt8) (h:10 ∉ u):linesGo [] u=[u]:=by
 have:=linesGo_no [] u [] h
 simpa [linesGo] using this
theorem linesGo_length (cur l:List UInt8):(linesGo cur l).length≤l.length+1:=by
 induction l generalizing cur with
 | nil=>simp [linesGo]
 | cons c r ih =>
   simp only [linesGo];split
   ·have:=ih [];simp;omega
   ·have:=ih (cur++[c]);simp;omega
theorem linesGo_all (p:UInt8→Bool) (cur l:List UInt8) (hc:cur.all p=true) (hl:l.all p=true):∀ x∈linesGo cur l,x.all p=true∧x.length≤cur.length+l.length:=by
 induction l generalizing cur with
 | nil=>intro x hx;simp [linesGo] at hx;subst hx;exact ⟨hc,by simp⟩
 | cons c r ih =>
   rw [List.all_cons,Bool.and_eq_true] at hl
   intro x hx
   simp only [linesGo] at hx
   split at hx
   ·rcases List.mem_cons.1 hx with rfl | h
    ·exact ⟨hc,by simp⟩
    ·have:=ih [] rfl hl.2 x h
     exact ⟨this.1,by have:=this.2;simp at this ⊢;omega⟩
   ·have:=ih (cur++[c]) (by simp [hc,hl.1]) hl.2 x hx
    exact ⟨this.1,by have:=this.2;simp at this ⊢;omega⟩
theorem fieldsGo_word (cur u r:List UInt8) (h:u.all (fun c=>!gapB c)=true):fieldsGo cur (u++r)=fieldsGo (cur++u) r:=by
 induction u generalizing cur with
 | nil=>simp
 | cons c u ih =>
   rw [List.all_cons,Bool.and_eq_true] at h
   have hc:gapB c=false:=by simpa using h.1
   simp only [List.cons_append,fieldsGo,hc,Bool.false_eq_true,if_false]
   rw [ih _ h.2]
   simp
theorem fieldsGo_gap0 (u r:List UInt8) (h:u.all gapB=true):fieldsGo [] (u++r)=fieldsGo [] r:=by
 induction u with
 | nil=>rfl
 | cons c u ih =>
   rw [List.all_cons,Bool.and_eq_true] at h
   simp only [List.cons_append,fieldsGo,h.1,if_true]
   exact ih h.2
theorem fieldsGo_gap (cur u r:List UInt8) (hu:u≠[]) (hc:cur≠[]) (h:u.all gapB=true):fieldsGo cur (u++r)=cur::fieldsGo [] r:=by
 cases u with
 | nil=>exact absurd rfl hu
 | cons c u =>
   rw [List.all_cons,Bool.and_eq_true] at h
   simp only [List.cons_append,fieldsGo,h.1,if_true,hc,if_false]
   rw [fieldsGo_gap0 u r h.2]
theorem said_length (l:List UInt8):(said l).length≤l.length:=by
 induction l with
 | nil=>simp [said]
 | cons c r ih=>simp only [said];split <;> simp;omega
theorem said_mark (u r:List UInt8) (h:35 ∉ u):said (u++35::r)=u:=by
 induction u with
 | nil=>simp [said]
 | cons c u ih =>
   have hc:c≠35:=fun e=>h (by simp [e])
   simp only [List.cons_append,said,if_neg hc]
   rw [ih (fun e=>h (List.mem_cons_of_mem _ e))]
theorem said_none (u:List UInt8) (h:35 ∉ u):said u=u:=by
 induction u with
 | nil=>rfl
 | cons c u ih =>
   have hc:c≠35:=fun e=>h (by simp [e])
   simp only [said,if_neg hc]
   rw [ih (fun e=>h (List.mem_cons_of_mem _ e))]
theorem cut_cases (d:UInt8) (l:List UInt8):(Lib.indexByte l d=-1∧d ∉ l)∨∃ i:Nat,Lib.indexByte l d=(i:Int)∧i < l.length∧d ∉ l.take i∧l=l.take i++d::l.drop (i+1):=by
 induction l with
 | nil=>exact .inl ⟨rfl,by simp⟩
 | cons c r ih =>
   by_cases h:c=d
   ·subst h
    exact .inr ⟨0,by simp [Lib.indexByte],by simp,by simp,by simp⟩
   ·have hb:(c==d)=false:=by simpa using h
    rcases ih with ⟨h1,h2⟩ | ⟨i,h1,h2,h3,h4⟩
    ·exact .inl ⟨by simp [Lib.indexByte,hb,h1],by simp [h2,Ne.symm h]⟩
    ·refine .inr ⟨i+1,by simp [Lib.indexByte,hb,h1],by simpa using h2,?_,?_⟩
     ·simp [h3,Ne.symm h]
     ·simpa using h4
theorem piece_ahead (s:ByteArray) (i:Nat):s.extract 0 i=mkB (s.data.toList.take i):=by
 apply ByteArray.ext
 apply Array.ext'
 rw [ByteArray.data_extract,Array.toList_extract]
 simp [mkB]
theorem piece_behind (s:ByteArray) (i:Nat):s.extract i s.size=mkB (s.data.toList.drop i):=by
 apply ByteArray.ext
 apply Array.ext'
 exact Lib.extract_to_end s i
theorem piece_mid (s:ByteArray) (i j:Nat):s.extract i j=mkB ((s.data.toList.drop i).take (j - i)):=by
 apply ByteArray.ext
 apply Array.ext'
 rw [ByteArray.data_extract,Array.toList_extract]
 simp [mkB,List.extract_eq_take_drop]
end Go.Proofs.YtfhhihamndbcnaaGreatDoor
