/- LexPlain LexFields LexBytes -/
import Derived.Laws.RangeString
import Derived.Lib.FieldsP
import Derived.Lib.Hide
import Derived.Lib.IndexBytes
import Derived.Lib.IndexMore
import Derived.Test.YthcpglnmhimepaaGreatDoorProg
import Derived.WalkSmall
import Derived.WalkSpells
import Derived.Test.YthcpglnmhimepaaGreatDoorS01
section
namespace Go.Proofs.YthcpglnmhimepaaGreatDoor
def mkB (l:List UInt8):ByteArray:=⟨l.toArray⟩
theorem mkB_list (s:ByteArray):mkB s.data.toList=s:=by simp [mkB]
theorem size_list (s:ByteArray):s.data.toList.length=s.size:=by rw [Array.length_toList];rfl
theorem mkB_size (l:List UInt8):(mkB l).size=l.length:=by simp [mkB,ByteArray.size]
theorem mkB_data (l:List UInt8):(mkB l).data.toList=l:=by simp [mkB]
def okB (c:UInt8):Bool:=c==9 || c==10 || (decide (32≤c.toNat) && decide (c.toNat≤126))
def okL (l:List UInt8):Bool:=l.all okB
def gapB (c:UInt8):Bool:=c==9 || c==32
def linesGo (cur:List UInt8):List UInt8→List (List UInt8)
 | []=>[cur]
 | c::r=>if c=10 then cur::linesGo [] r else linesGo (cur++[c]) r
def fieldsGo (cur:List UInt8):List UInt8→List (List UInt8)
 | []=>if cur=[] then [] else [cur]
 | c::r=>if gapB c then (if cur=[] then fieldsGo [] r else cur::fieldsGo [] r) else fieldsGo (cur++[c]) r
def said:List UInt8→List UInt8
 | []=>[]
 | c::r=>if c=35 then [] else c::said r
def wordsL (l:List UInt8):List (List UInt8):=fieldsGo [] (said l)
def enumL (n:Nat):List (List UInt8)→List (Nat × List UInt8)
 | []=>[]
 | x::r=>(n,x)::enumL (n+1) r
def numP (l:List (Nat × List UInt8)):List (Nat × List (List UInt8)):=l.flatMap fun x=>if wordsL x.2=[] then [] else [(x.1,wordsL x.2)]
def linesL (l:List UInt8):List (Nat × List (List UInt8)):=numP (enumL 1 (linesGo [] l))
def asB (L:List (Nat × List (List UInt8))):List (Int × List ByteArray):=L.map fun x=>((x.1:Int),x.2.map mkB)
def linE (l:List UInt8):Int:=if 20000 < l.length then 4 else if okL l then 0 else 5
def linV (l:List UInt8):List (Nat × List (List UInt8)):=if 20000 < l.length then [] else if okL l then linesL l else []
theorem numP_append (a b:List (Nat × List UInt8)):numP (a++b)=numP a++numP b:=by simp [numP]
theorem numP_hit (a:List (Nat × List UInt8)) (x:Nat × List UInt8) (h:wordsL x.2≠[]):numP (a++[x])=numP a++[(x.1,wordsL x.2)]:=by simp [numP,h]
theorem numP_miss (a:List (Nat × List UInt8)) (x:Nat × List UInt8) (h:wordsL x.2=[]):numP (a++[x])=numP a:=by simp [numP,h]
theorem numP_length (a:List (Nat × List UInt8)):(numP a).length≤a.length:=by
 induction a with
 | nil=>simp [numP]
 | cons x r ih =>
   have e:numP (x::r)=(if wordsL x.2=[] then [] else [(x.1,wordsL x.2)])++numP r:=by simp [numP]
   rw [e];simp only [List.length_append,List.length_cons]
   split <;> simp <;> omega
theorem asB_append (a b:List (Nat × List (List UInt8))):asB (a++b)=asB a++asB b:=by simp [asB]
theorem asB_length (a:List (Nat × List (List UInt8))):(asB a).length=a.length:=by simp [asB]
theorem enumL_length (n:Nat) (a:List (List UInt8)):(enumL n a).length=a.length:=by
 induction a generalizing n with
 | nil=>rfl
 | cons x r ih=>simp [enumL,ih]
theorem linesGo_no (cur u r:List UInt8) (h:10 ∉ u):linesGo cur (u++r)=linesGo (cur++u) r:=by
 induction u generalizing cur with
 | nil=>simp
 | cons c u ih =>
   have hc:c≠10:=fun e=>h (by simp [e])
   simp only [List.cons_append,linesGo,if_neg hc]
   rw [ih _ (fun e=>h (List.mem_cons_of_mem _ e))]
   simp
theorem linesGo_cut (u r:List UInt8) (h:10 ∉ u):linesGo [] (u++10::r)=u::linesGo [] r:=by
 rw [linesGo_no _ _ _ h];simp [linesGo]
theorem linesGo_last (u:List UInt8) (h:10 ∉ u):linesGo [] u=[u]:=by
 have:=linesGo_no [] u [] h
 simpa [linesGo] using this
theorem linesGo_length (cur l:List UInt8):(linesGo cur l).length≤l.length+1:=by
 induction l generalizing cur with
 | nil=>simp [linesGo]
 | cons c r ih =>
   simp only [linesGo];split
   ·have:=ih [];simp;omega
   ·have:=ih (cur++[c]);simp;omega
theorem linesGo_all (p:UInt8→Bool) (cur l:List UInt8) (hc:cur.all p=true) (hl:l.all p=true):∀ x∈linesGo cur l,x.all p=true∧x.length≤cur.length+l.length:=by
 induction l generalizing cur with
 | nil=>intro x hx;simp [linesGo] at hx;subst hx;exact ⟨hc,by simp⟩
 | cons c r ih =>
   rw [List.all_cons,Bool.and_eq_true] at hl
   intro x hx
   simp only [linesGo] at hx
   split at hx
   ·rcases List.mem_cons.1 hx with rfl | h
    ·exact ⟨hc,by simp⟩
    ·have:=ih [] rfl hl.2 x h
     exact ⟨this.1,by have:=this.2;simp at this ⊢;omega⟩
   ·have:=ih (cur++[c]) (by simp [hc,hl.1]) hl.2 x hx
    exact ⟨this.1,by have:=this.2;simp at this ⊢;omega⟩
theorem fieldsGo_word (cur u r:List UInt8) (h:u.all (fun c=>!gapB c)=true):fieldsGo cur (u++r)=fieldsGo (cur++u) r:=by
 induction u generalizing cur with
 | nil=>simp
 | cons c u ih =>
   rw [List.all_cons,Bool.and_eq_true] at h
   have hc:gapB c=false:=by simpa using h.1
   simp only [List.cons_append,fieldsGo,hc,Bool.false_eq_true,if_false]
   rw [ih _ h.2]
   simp
theorem fieldsGo_gap0 (u r:List UInt8) (h:u.all gapB=true):fieldsGo [] (u++r)=fieldsGo [] r:=by
 induction u with
 | nil=>rfl
 | cons c u ih =>
   rw [List.all_cons,Bool.and_eq_true] at h
   simp only [List.cons_append,fieldsGo,h.1,if_true]
   exact ih h.2
theorem fieldsGo_gap (cur u r:List UInt8) (hu:u≠[]) (hc:cur≠[]) (h:u.all gapB=true):fieldsGo cur (u++r)=cur::fieldsGo [] r:=by
 cases u with
 | nil=>exact absurd rfl hu
 | cons c u =>
   rw [List.all_cons,Bool.and_eq_true] at h
   simp only [List.cons_append,fieldsGo,h.1,if_true,hc,if_false]
   rw [fieldsGo_gap0 u r h.2]
theorem said_length (l:List UInt8):(said l).length≤l.length:=by
 induction l with
 | nil=>simp [said]
 | cons c r ih=>simp only [said];split <;> simp;omega
theorem said_mark (u r:List UInt8) (h:35 ∉ u):said (u++35::r)=u:=by
 induction u with
 | nil=>simp [said]
 | cons c u ih =>
   have hc:c≠35:=fun e=>h (by simp [e])
   simp only [List.cons_append,said,if_neg hc]
   rw [ih (fun e=>h (List.mem_cons_of_mem _ e))]
theorem said_none (u:List UInt8) (h:35 ∉ u):said u=u:=by
 induction u with
 | nil=>rfl
 | cons c u ih =>
   have hc:c≠35:=fun e=>h (by simp [e])
   simp only [said,if_neg hc]
   rw [ih (fun e=>h (List.mem_cons_of_mem _ e))]
theorem cut_cases (d:UInt8) (l:List UInt8):(Lib.indexByte l d=-1∧d ∉ l)∨∃ i:Nat,Lib.indexByte l d=(i:Int)∧i < l.length∧d ∉ l.take i∧l=l.take i++d::l.drop (i+1):=by
 induction l with
 | nil=>exact .inl ⟨rfl,by simp⟩
 | cons c r ih =>
   by_cases h:c=d
   ·subst h
    exact .inr ⟨0,by simp [Lib.indexByte],by simp,by simp,by simp⟩
   ·have hb:(c==d)=false:=by simpa using h
    rcases ih with ⟨h1,h2⟩ | ⟨i,h1,h2,h3,h4⟩
    ·exact .inl ⟨by simp [Lib.indexByte,hb,h1],by simp [h2,Ne.symm h]⟩
    ·refine .inr ⟨i+1,by simp [Lib.indexByte,hb,h1],by simpa using h2,?_,?_⟩
     ·simp [h3,Ne.symm h]
     ·simpa using h4
theorem piece_ahead (s:ByteArray) (i:Nat):s.extract 0 i=mkB (s.data.toList.take i):=by
 apply ByteArray.ext
 apply Array.ext'
 rw [ByteArray.data_extract,Array.toList_extract]
 simp [mkB]
theorem piece_behind (s:ByteArray) (i:Nat):s.extract i s.size=mkB (s.data.toList.drop i):=by
 apply ByteArray.ext
 apply Array.ext'
 exact Lib.extract_to_end s i
theorem piece_mid (s:ByteArray) (i j:Nat):s.extract i j=mkB ((s.data.toList.drop i).take (j - i)):=by
 apply ByteArray.ext
 apply Array.ext'
 rw [ByteArray.data_extract,Array.toList_extract]
 simp [mkB,List.extract_eq_take_drop]
end Go.Proofs.YthcpglnmhimepaaGreatDoor
end
section
namespace Go.Proofs.YthcpglnmhimepaaGreatDoor
def gapR (r:Nat):Bool:=r==9 || r==32
theorem gapR_byte (c:UInt8):gapR c.toNat=gapB c:=by
 unfold gapR gapB
 have e1:(c.toNat==9)=(c==9):=by
  rw [Bool.eq_iff_iff];simp [←UInt8.toNat_inj]
 have e2:(c.toNat==32)=(c==32):=by
  rw [Bool.eq_iff_iff];simp [←UInt8.toNat_inj]
 rw [e1,e2]
def pieceL (l:List UInt8) (x:Nat × Nat):List UInt8:=(l.drop x.1).take (x.2 - x.1)
def openL (l:List UInt8) (st:Option Nat) (pos:Nat):List UInt8:=match st with
 | some a=>pieceL l (a,pos)
 | none=>[]
theorem pieceL_ne (l:List UInt8) (a b:Nat) (h:a < b) (hb:b≤l.length):pieceL l (a,b)≠[]:=by
 intro h0
 have:=congrArg List.length h0
 simp [pieceL] at this
 omega
theorem pieceL_snoc (l:List UInt8) (a b:Nat) (h:a≤b) (hb:b < l.length):pieceL l (a,b)++[l[b]]=pieceL l (a,b+1):=by
 unfold pieceL
 have e:b+1 - a=(b - a)+1:=by omega
 rw [e,List.take_succ_eq_append_getElem (by simp;omega)]
 congr 2
 simp only [List.getElem_drop]
 congr 1
 omega
theorem spans_plain (s:ByteArray) (hs:∀ c∈s.data.toList,c.toNat < 128):∀ (f pos:Nat) (st:Option Nat) (acc:List (Nat × Nat)),s.size≤pos+f→pos≤s.size→(∀ a,st=some a→a < pos) →
 (Lib.closeSpans s (Lib.spansFromP gapR s f pos st acc)).map (pieceL s.data.toList)=acc.map (pieceL s.data.toList)++fieldsGo (openL s.data.toList st pos) (s.data.toList.drop pos)
 | 0,pos,st,acc,h,hp,hst=>by
   obtain rfl:pos=s.size:=by omega
   have hd:s.data.toList.drop s.size=[]:=List.drop_eq_nil_of_le (by rw [size_list];exact Nat.le_refl _)
   rw [hd]
   cases st with
   | none=>simp [Lib.spansFromP,Lib.closeSpans,openL,fieldsGo]
   | some a =>
     have:=pieceL_ne s.data.toList a s.size (hst a rfl) (by rw [size_list];exact Nat.le_refl _)
     simp [Lib.spansFromP,Lib.closeSpans,openL,fieldsGo,this]
 | f+1,pos,st,acc,h,hp,hst=>by
   by_cases hlt:pos < s.size
   ·have hl:pos < s.data.toList.length:=by rw [size_list];exact hlt
    have hget:s[pos]'hlt=s.data.toList[pos]'hl:=by simp [ByteArray.getElem_eq_getElem_data]
    have hdc:=decode_ascii s pos hlt (by rw [hget];exact hs _ (List.getElem_mem hl))
    rw [hget] at hdc
    have hdrop:s.data.toList.drop pos=s.data.toList[pos]::s.data.toList.drop (pos+1):=List.drop_eq_getElem_cons hl
    rw [hdrop]
    simp only [Lib.spansFromP,hlt,if_true,hdc,gapR_byte,fieldsGo]
    cases hg:gapB s.data.toList[pos] with
    | true =>
      cases st with
      | none =>
        simp only [if_true]
        rw [spans_plain s hs f (pos+1) none acc (by omega) (by omega) (fun a h=>by cases h)]
        simp [openL]
      | some a =>
        have hne:=pieceL_ne s.data.toList a pos (hst a rfl) (by omega)
        simp only [if_true]
        rw [spans_plain s hs f (pos+1) none _ (by omega) (by omega) (fun a h=>by cases h)]
        simp [openL,hne]
    | false =>
      cases st with
      | none =>
        simp only [Bool.false_eq_true,if_false]
        rw [spans_plain s hs f (pos+1) (some pos) acc (by omega) (by omega) (fun a h=>by cases h;omega)]
        simp only [openL]
        rw [←pieceL_snoc s.data.toList pos pos (Nat.le_refl _) hl]
        simp [pieceL]
      | some a =>
        have ha:=hst a rfl
        simp only [Bool.false_eq_true,if_false]
        rw [spans_plain s hs f (pos+1) (some a) acc (by omega) (by omega) (fun b h=>by cases h;omega)]
        simp only [openL]
        rw [←pieceL_snoc s.data.toList a pos (by omega) hl]
   ·obtain rfl:pos=s.size:=by omega
    have hd:s.data.toList.drop s.size=[]:=List.drop_eq_nil_of_le (by rw [size_list];exact Nat.le_refl _)
    rw [hd,Lib.spansFromP_end _ _ _ _ _ _ hlt]
    cases st with
    | none=>simp [Lib.closeSpans,openL,fieldsGo]
    | some a =>
      have:=pieceL_ne s.data.toList a s.size (hst a rfl) (by rw [size_list];exact Nat.le_refl _)
      simp [Lib.closeSpans,openL,fieldsGo,this]
theorem fields_plain (s:ByteArray) (hs:∀ c∈s.data.toList,c.toNat < 128):Lib.goFieldsP gapR s=(fieldsGo [] s.data.toList).map mkB:=by
 have h:=spans_plain s hs s.size 0 none [] (by omega) (Nat.zero_le _) (fun a h=>by cases h)
 simp only [List.map_nil,List.nil_append,openL,List.drop_zero] at h
 rw [←h,List.map_map]
 unfold Lib.goFieldsP Lib.spansOfP
 apply List.map_congr_left
 intro x _
 exact piece_mid s x.1 x.2
end Go.Proofs.YthcpglnmhimepaaGreatDoor
end
section
namespace Go.Proofs.YthcpglnmhimepaaGreatDoor
open Go.RowKit
def letB (n:Nat):Bool:=decide (97≤n∧n≤122∨65≤n∧n≤90)
def inB (n:Nat):Bool:=decide ((97≤n∧n≤122∨65≤n∧n≤90)∨48≤n∧n≤57∨n=46∨n=95∨n=45)
def nameL (l:List UInt8):Bool:=decide (1≤l.length∧l.length≤12) && letB (l.headD 0).toNat && l.all fun c=>inB c.toNat
theorem ret_bdec {p:Prop} [Decidable p] {b:Bool} (h:b=true ↔ p):Ending.returned (.bool b)=.returned (.bool (decide p)):=by
 congr 2;rw [Bool.eq_iff_iff];simpa using h
set_option maxHeartbeats 400000 in
theorem letter_any (n:Nat) (w:World) (hn:n < 256):Calls Tryz.prog 124 #[.int .u8 (n:Int)] w fun e w'=>e=.returned (.bool (letB n))∧w=w':=by
 go_enter Tryz.func124,Tryz.ntmps124
 go_wp2
 all_goals
  go_ret
  exact ⟨ret_bdec (by first | omega | (simp;omega)),rfl⟩
set_option maxHeartbeats 400000 in
theorem rletter_any (n:Nat) (w:World) (hn:n < 256):Calls Tryz.prog 92 #[.int .u8 (n:Int)] w fun e w'=>e=.returned (.bool (letB n))∧w=w':=by
 go_enter Tryz.func92,Tryz.ntmps92
 go_wp2
 all_goals
  go_ret
  exact ⟨ret_bdec (by first | omega | (simp;omega)),rfl⟩
set_option maxHeartbeats 400000 in
theorem between_any (n:Nat) (w:World) (hn:n≤1114111):Calls Tryz.prog 85 #[.int .i32 (n:Int)] w fun e w'=>e=.returned (.bool (gapR n))∧w=w':=by
 have e1:gapR n=decide (n=9∨n=32):=by unfold gapR;rw [Bool.eq_iff_iff];simp
 rw [e1]
 clear e1
 go_enter Tryz.func85,Tryz.ntmps85
 go_wp2
 all_goals
  go_ret
  exact ⟨ret_bdec (by first | omega | (simp;omega)),rfl⟩
set_option maxHeartbeats 400000 in
theorem inName_any (n:Nat) (w:World) (hn:n < 256):Calls Tryz.prog 125 #[.int .u8 (n:Int)] w fun e w'=>e=.returned (.bool (inB n))∧w=w':=by
 cases hl:letB n with
 | true =>
   have H:=Lib.hid hl
   have hp:97≤n∧n≤122∨65≤n∧n≤90:=of_decide_eq_true hl
   clear hl
   go_enter Tryz.func125,Tryz.ntmps125
   go_wp2_with fail
   refine (letter_any n _ hn).mono ?_
   rintro e w' ⟨rfl,rfl⟩
   rw [H.out]
   go_wp2
   all_goals
    go_ret
    exact ⟨ret_bdec (by first | omega | (simp;omega)),rfl⟩
 | false =>
   have H:=Lib.hid hl
   have hp:¬ (97≤n∧n≤122∨65≤n∧n≤90):=of_decide_eq_false hl
   clear hl
   go_enter Tryz.func125,Tryz.ntmps125
   go_wp2_with fail
   refine (letter_any n _ hn).mono ?_
   rintro e w' ⟨rfl,rfl⟩
   rw [H.out]
   go_wp2
   all_goals
    go_ret
    exact ⟨ret_bdec (by first | omega | (simp;omega)),rfl⟩
theorem all_take (p:UInt8→Bool) (s:ByteArray) (k:Nat) (h:k < s.size):(s.data.toList.take (k+1)).all p=((s.data.toList.take k).all p && p s[k]):=by
 rw [List.take_succ_eq_append_getElem (by rw [size_list];exact h),List.all_append];simp;rfl
theorem all_no (p:UInt8→Bool) (s:ByteArray) (k:Nat) (h:k < s.size) (hp:p s[k]=false):s.data.toList.all p=false:=by
 cases h':s.data.toList.all p with
 | false=>rfl
 | true =>
   have:=List.all_eq_true.1 h' s[k] (by
    have:s[k]=s.data.toList[k]'(by rw [size_list];exact h):=by simp [ByteArray.getElem_eq_getElem_data]
    rw [this];exact List.getElem_mem _)
   rw [←hp];exact this.symm
theorem all_end (p:UInt8→Bool) (s:ByteArray) (k:Nat) (h:¬ k < s.size) (hk:k≤s.size) (ha:(s.data.toList.take k).all p=true):s.data.toList.all p=true:=by
 rwa [List.take_of_length_le (by rw [size_list];omega)] at ha
theorem head_at (s:ByteArray) (h:0 < s.size):s.data.toList.headD 0=s[0]:=by
 have:s[0]=s.data.toList[0]'(by rw [size_list];exact h):=by simp [ByteArray.getElem_eq_getElem_data]
 rw [this,List.headD_eq_head?_getD,List.head?_eq_getElem?,List.getElem?_eq_getElem (by rw [size_list];exact h)]
 rfl
theorem nameL_eq (s:ByteArray) (h:0 < s.size) (h2:s.size≤12):nameL s.data.toList=(letB s[0].toNat && s.data.toList.all fun c=>inB c.toNat):=by
 unfold nameL
 rw [head_at s h,size_list]
 have:decide (1≤s.size∧s.size≤12)=true:=decide_eq_true (by omega)
 rw [this];rfl
theorem nameL_len (s:ByteArray) (h:¬ (0 < s.size∧s.size≤12)):nameL s.data.toList=false:=by
 unfold nameL
 rw [size_list]
 have:decide (1≤s.size∧s.size≤12)=false:=decide_eq_false (by omega)
 rw [this];rfl
set_option maxHeartbeats 1000000 in
theorem name_at (s:ByteArray) (w:World) :
 Calls Tryz.prog 86 #[.string s] w fun e w'=>e=.returned (.bool (nameL s.data.toList))∧w=w':=by
 by_cases hl:0 < s.size∧s.size≤12
 ·obtain ⟨h0,h12⟩:=hl
  have HN:=Lib.hid (nameL_eq s h0 h12)
  cases hf:letB s[0].toNat with
  | false =>
    have HF:=Lib.hid hf
    clear hf
    have HR:Hid (nameL s.data.toList=false):=Lib.hid (by rw [HN.out,HF.out];rfl)
    have a1:¬ s.size < 1:=by omega
    have a2:¬ 12 < s.size:=by omega
    go_enter Tryz.func86,Tryz.ntmps86
    go_wp2_with fail
    refine (letter_any _ _ (UInt8.toNat_lt _)).mono ?_
    rintro e w' ⟨rfl,rfl⟩
    rw [HF.out]
    go_wp2
    go_ret
    exact ⟨ret_bool HR.out.symm,rfl⟩
  | true =>
    have HF:=Lib.hid hf
    clear hf
    have HR:Hid (nameL s.data.toList=s.data.toList.all fun c=>inB c.toNat):=Lib.hid (by rw [HN.out,HF.out];rfl)
    clear HN
    have a1:¬ s.size < 1:=by omega
    have a2:¬ 12 < s.size:=by omega
    go_enter Tryz.func86,Tryz.ntmps86
    go_wp2_with fail
    refine (letter_any _ _ (UInt8.toNat_lt _)).mono ?_
    rintro e w' ⟨rfl,rfl⟩
    rw [HF.out]
    go_wp2
    go_loop [20] (fun i=>∃ k:Nat,k≤s.size∧i=.int .i64 k∧(s.data.toList.take k).all (fun c=>inB c.toNat)=true) (fun i=>s.size - (intOf i).toNat)
    case atStart=>exact ⟨0,Nat.zero_le _,rfl,rfl⟩
    case round =>
     obtain ⟨k,hk,rfl,hd⟩:=hrel
     have HD:=Lib.hid hd
     clear hd
     by_cases hlt:k < s.size
     ·cases hc:inB s[k].toNat with
      | true =>
        have HC:=Lib.hid hc
        clear hc
        go_wp2_with fail
        refine (inName_any _ _ (UInt8.toNat_lt _)).mono ?_
        rintro e w' ⟨rfl,rfl⟩
        rw [HC.out]
        go_wp2
        go_round
        case rel=>exact ⟨k+1,by omega,by go_num,by rw [all_take _ s k hlt,HD.out,HC.out];rfl⟩
        case measure=>simp [intOf];omega
      | false =>
        have HC:=Lib.hid hc
        clear hc
        go_wp2_with fail
        refine (inName_any _ _ (UInt8.toNat_lt _)).mono ?_
        rintro e w' ⟨rfl,rfl⟩
        rw [HC.out]
        go_wp2
        go_ret
        exact ⟨ret_bool (by rw [HR.out,all_no _ s k hlt HC.out]),rfl⟩
     ·go_wp2
      go_ret
      exact ⟨ret_bool (by rw [HR.out,all_end _ s k hlt hk HD.out]),rfl⟩
 ·have HR:=Lib.hid (nameL_len s hl)
  rcases (by omega:s.size < 1∨(¬ s.size < 1∧12 < s.size)) with a1 | ⟨a1,a2⟩
  ·clear hl
   go_enter Tryz.func86,Tryz.ntmps86
   go_wp2
   go_ret
   exact ⟨ret_bool HR.out.symm,rfl⟩
  ·clear hl
   go_enter Tryz.func86,Tryz.ntmps86
   go_wp2
   go_ret
   exact ⟨ret_bool HR.out.symm,rfl⟩
theorem name_any (s:ByteArray) (w:World) (_hs:s.size≤maxLen) :
 Calls Tryz.prog 86 #[.string s] w fun e w'=>e=.returned (.bool (nameL s.data.toList))∧w=w':=name_at s w
theorem okB_dec (c:UInt8):okB c=decide (c.toNat=9∨c.toNat=10∨32≤c.toNat∧c.toNat≤126):=by
 unfold okB
 rw [Bool.eq_iff_iff]
 simp [←UInt8.toNat_inj]
 omega
set_option maxHeartbeats 1000000 in
theorem readable_any (s:ByteArray) (w:World) (hs:s.size≤maxLen) :
 Calls Tryz.prog 45 #[.string s] w fun e w'=>e=.returned (.bool (okL s.data.toList))∧w=w':=by
 unfold maxLen at hs
 go_enter Tryz.func45,Tryz.ntmps45
 go_wp2
 go_loop [7] (fun i=>∃ k:Nat,k≤s.size∧i=.int .i64 k∧(s.data.toList.take k).all okB=true) (fun i=>s.size - (intOf i).toNat)
 case atStart=>exact ⟨0,Nat.zero_le _,rfl,rfl⟩
 case round =>
  obtain ⟨k,hk,rfl,hd⟩:=hrel
  have HD:=Lib.hid hd
  clear hd
  by_cases hlt:k < s.size
  ·have HO:=Lib.hid (okB_dec s[k])
   have hb:s[k].toNat < 256:=UInt8.toNat_lt _
   go_wp2
   all_goals first
    | (go_ret
       exact ⟨ret_bool (show false=okL s.data.toList from (all_no okB s k hlt (by rw [HO.out];exact decide_eq_false (by omega))).symm),rfl⟩)
    | (go_round
       case rel=>exact ⟨k+1,by omega,by go_num,by rw [all_take okB s k hlt,HD.out,HO.out];exact decide_eq_true (by first | omega | (simp only [bne_eq_false_iff_eq] at *;omega))⟩
       case measure=>simp [intOf];omega)
  ·go_wp2
   go_ret
   exact ⟨ret_bool (all_end _ s k hlt hk HD.out).symm,rfl⟩
end Go.Proofs.YthcpglnmhimepaaGreatDoor
end
