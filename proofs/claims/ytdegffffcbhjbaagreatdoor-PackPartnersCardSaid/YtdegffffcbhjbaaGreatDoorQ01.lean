/- LexPlain LexFields Base LexBytes ChartPlain ChartLists SortedG Sorted Mem LexMem Els FlowPlain UnitPlain FlowSearch Past UnitOrd MapEntry UnitKeys UnitSane UnitStood Shelf LexJoin LexBackPlain UnitText UnitRun UnitOk ChartMem ChartFind UnitMem AppendEl EntDoc -/
import Derived.BigQuiet
import Derived.Deep.Draws
import Derived.Deep.LoopGhost
import Derived.Deep.QuietTactic
import Derived.Deep.WholeRow
import Derived.DeepKeys4
import Derived.Handy
import Derived.IntWalk
import Derived.Laws.AppendOwnNone
import Derived.Laws.RangeString
import Derived.Laws.Tables
import Derived.Lib.Bytealg
import Derived.Lib.FieldsP
import Derived.Lib.Hide
import Derived.Lib.IndexBytes
import Derived.Lib.IndexMore
import Derived.Lib.SlicesS
import Derived.Lib.Walk
import Derived.LoopTactic
import Derived.Maps.Keyed
import Derived.Maps.Own
import Derived.Maps.OwnOps
import Derived.Maps.OwnSet
import Derived.Maps.Views
import Derived.OwnWalk
import Derived.RangeFuncBox
import Derived.RegionTactic
import Derived.Shelf.LaysC
import Derived.Shelf.LaysM
import Derived.Shelf.Strconv.ErrVarParseInt
import Derived.Shelf.Strconv.ParseIntPublic10
import Derived.Shelf.Strings.FieldsFuncAny
import Derived.Shelf.Strings.OnBuilder
import Derived.Shelf.Strings.Search2
import Derived.Test.YtdegffffcbhjbaaGreatDoorProg
import Derived.WalkKit
import Derived.WalkLawsBesides
import Derived.WalkSmall
import Derived.WalkSpells
import Derived.WideKeyEntry
namespace Go.Proofs.YtdegffffcbhjbaaGreatDoor
end Go.Proofs.YtdegffffcbhjbaaGreatDoor
namespace Go.Proofs.YtdegffffcbhjbaaGreatDoor.Fa
end Go.Proofs.YtdegffffcbhjbaaGreatDoor.Fa
namespace Go.Proofs.YtdegffffcbhjbaaGreatDoor.Fl
end Go.Proofs.YtdegffffcbhjbaaGreatDoor.Fl
namespace Go.Proofs.YtdegffffcbhjbaaGreatDoor.G
end Go.Proofs.YtdegffffcbhjbaaGreatDoor.G
namespace Go.Proofs.YtdegffffcbhjbaaGreatDoor.Ow
end Go.Proofs.YtdegffffcbhjbaaGreatDoor.Ow
namespace Go.Proofs.YtdegffffcbhjbaaGreatDoor.Pk
end Go.Proofs.YtdegffffcbhjbaaGreatDoor.Pk
namespace Go.Proofs.YtdegffffcbhjbaaGreatDoor.Un
end Go.Proofs.YtdegffffcbhjbaaGreatDoor.Un
namespace Go.Proofs.YtdegffffcbhjbaaGreatDoor.find_any
end Go.Proofs.YtdegffffcbhjbaaGreatDoor.find_any
namespace Go.Proofs.YtdegffffcbhjbaaGreatDoor.parse_any
end Go.Proofs.YtdegffffcbhjbaaGreatDoor.parse_any
section
namespace Go.Proofs.YtdegffffcbhjbaaGreatDoor
def mkB (l:List UInt8):ByteArray:=⟨l.toArray⟩
theorem mkB_list (s:ByteArray):mkB s.data.toList=s:=by simp [mkB]
theorem size_list (s:ByteArray):s.data.toList.length=s.size:=by rw [Array.length_toList];rfl
theorem mkB_size (l:List UInt8):(mkB l).size=l.length:=by simp [mkB,ByteArray.size]
theorem mkB_data (l:List UInt8):(mkB l).data.toList=l:=by simp [mkB]
def okB (c:UInt8):Bool:=c==9 || c==10 || (decide (32≤c.toNat) && decide (c.toNat≤126))
def okL (l:List UInt8):Bool:=l.all okB
def gapB (c:UInt8):Bool:=c==9 || c==32
def linesGo (cur:List UInt8):List UInt8→List (List UInt8)
 | []=>[cur]
 | c::r=>if c=10 then cur::linesGo [] r else linesGo (cur++[c]) r
def fieldsGo (cur:List UInt8):List UInt8→List (List UInt8)
 | []=>if cur=[] then [] else [cur]
 | c::r=>if gapB c then (if cur=[] then fieldsGo [] r else cur::fieldsGo [] r) else fieldsGo (cur++[c]) r
def said:List UInt8→List UInt8
 | []=>[]
 | c::r=>if c=35 then [] else c::said r
def wordsL (l:List UInt8):List (List UInt8):=fieldsGo [] (said l)
def enumL (n:Nat):List (List UInt8)→List (Nat × List UInt8)
 | []=>[]
 | x::r=>(n,x)::enumL (n+1) r
def numP (l:List (Nat × List UInt8)):List (Nat × List (List UInt8)):=l.flatMap fun x=>if wordsL x.2=[] then [] else [(x.1,wordsL x.2)]
def linesL (l:List UInt8):List (Nat × List (List UInt8)):=numP (enumL 1 (linesGo [] l))
def asB (L:List (Nat × List (List UInt8))):List (Int × List ByteArray):=L.map fun x=>((x.1:Int),x.2.map mkB)
def linE (l:List UInt8):Int:=if 20000 < l.length then 4 else if okL l then 0 else 5
def linV (l:List UInt8):List (Nat × List (List UInt8)):=if 20000 < l.length then [] else if okL l then linesL l else []
theorem numP_hit (a:List (Nat × List UInt8)) (x:Nat × List UInt8) (h:wordsL x.2≠[]):numP (a++[x])=numP a++[(x.1,wordsL x.2)]:=by simp [numP,h]
theorem numP_miss (a:List (Nat × List UInt8)) (x:Nat × List UInt8) (h:wordsL x.2=[]):numP (a++[x])=numP a:=by simp [numP,h]
theorem numP_length (a:List (Nat × List UInt8)):(numP a).length≤a.length:=by
 induction a with
 | nil=>simp [numP]
 | cons x r ih =>
   have e:numP (x::r)=(if wordsL x.2=[] then [] else [(x.1,wordsL x.2)])++numP r:=by simp [numP]
   rw [e];simp only [List.length_append,List.length_cons]
   split <;> simp <;> omega
theorem asB_append (a b:List (Nat × List (List UInt8))):asB (a++b)=asB a++asB b:=by simp [asB]
theorem asB_length (a:List (Nat × List (List UInt8))):(asB a).length=a.length:=by simp [asB]
theorem enumL_length (n:Nat) (a:List (List UInt8)):(enumL n a).length=a.length:=by
 induction a generalizing n with
 | nil=>rfl
 | cons x r ih=>simp [enumL,ih]
theorem linesGo_no (cur u r:List UInt8) (h:10 ∉ u):linesGo cur (u++r)=linesGo (cur++u) r:=by
 induction u generalizing cur with
 | nil=>simp
 | cons c u ih =>
   have hc:c≠10:=fun e=>h (by simp [e])
   simp only [List.cons_append,linesGo,if_neg hc]
   rw [ih _ (fun e=>h (List.mem_cons_of_mem _ e))]
   simp
theorem linesGo_cut (u r:List UInt8) (h:10 ∉ u):linesGo [] (u++10::r)=u::linesGo [] r:=by
 rw [linesGo_no _ _ _ h];simp [linesGo]
theorem linesGo_last (u:List UInt8) (h:10 ∉ u):linesGo [] u=[u]:=by
 have:=linesGo_no [] u [] h
 simpa [linesGo] using this
theorem linesGo_length (cur l:List UInt8):(linesGo cur l).length≤l.length+1:=by
 induction l generalizing cur with
 | nil=>simp [linesGo]
 | cons c r ih =>
   simp only [linesGo];split
   ·have:=ih [];simp;omega
   ·have:=ih (cur++[c]);simp;omega
theorem linesGo_all (p:UInt8→Bool) (cur l:List UInt8) (hc:cur.all p=true) (hl:l.all p=true):∀ x∈linesGo cur l,x.all p=true∧x.length≤cur.length+l.length:=by
 induction l generalizing cur with
 | nil=>intro x hx;simp [linesGo] at hx;subst hx;exact ⟨hc,by simp⟩
 | cons c r ih =>
   rw [List.all_cons,Bool.and_eq_true] at hl
   intro x hx
   simp only [linesGo] at hx
   split at hx
   ·rcases List.mem_cons.1 hx with rfl | h
    ·exact ⟨hc,by simp⟩
    ·have:=ih [] rfl hl.2 x h
     exact ⟨this.1,by have:=this.2;simp at this ⊢;omega⟩
   ·have:=ih (cur++[c]) (by simp [hc,hl.1]) hl.2 x hx
    exact ⟨this.1,by have:=this.2;simp at this ⊢;omega⟩
theorem fieldsGo_word (cur u r:List UInt8) (h:u.all (fun c=>!gapB c)=true):fieldsGo cur (u++r)=fieldsGo (cur++u) r:=by
 induction u generalizing cur with
 | nil=>simp
 | cons c u ih =>
   rw [List.all_cons,Bool.and_eq_true] at h
   have hc:gapB c=false:=by simpa using h.1
   simp only [List.cons_append,fieldsGo,hc,Bool.false_eq_true,if_false]
   rw [ih _ h.2]
   simp
theorem fieldsGo_gap0 (u r:List UInt8) (h:u.all gapB=true):fieldsGo [] (u++r)=fieldsGo [] r:=by
 induction u with
 | nil=>rfl
 | cons c u ih =>
   rw [List.all_cons,Bool.and_eq_true] at h
   simp only [List.cons_append,fieldsGo,h.1,if_true]
   exact ih h.2
theorem fieldsGo_gap (cur u r:List UInt8) (hu:u≠[]) (hc:cur≠[]) (h:u.all gapB=true):fieldsGo cur (u++r)=cur::fieldsGo [] r:=by
 cases u with
 | nil=>exact absurd rfl hu
 | cons c u =>
   rw [List.all_cons,Bool.and_eq_true] at h
   simp only [List.cons_append,fieldsGo,h.1,if_true,hc,if_false]
   rw [fieldsGo_gap0 u r h.2]
theorem said_length (l:List UInt8):(said l).length≤l.length:=by
 induction l with
 | nil=>simp [said]
 | cons c r ih=>simp only [said];split <;> simp;omega
theorem said_mark (u r:List UInt8) (h:35 ∉ u):said (u++35::r)=u:=by
 induction u with
 | nil=>simp [said]
 | cons c u ih =>
   have hc:c≠35:=fun e=>h (by simp [e])
   simp only [List.cons_append,said,if_neg hc]
   rw [ih (fun e=>h (List.mem_cons_of_mem _ e))]
theorem said_none (u:List UInt8) (h:35 ∉ u):said u=u:=by
 induction u with
 | nil=>rfl
 | cons c u ih =>
   have hc:c≠35:=fun e=>h (by simp [e])
   simp only [said,if_neg hc]
   rw [ih (fun e=>h (List.mem_cons_of_mem _ e))]
theorem cut_cases (d:UInt8) (l:List UInt8):(Lib.indexByte l d=-1∧d ∉ l)∨∃ i:Nat,Lib.indexByte l d=(i:Int)∧i < l.length∧d ∉ l.take i∧l=l.take i++d::l.drop (i+1):=by
 induction l with
 | nil=>exact .inl ⟨rfl,by simp⟩
 | cons c r ih =>
   by_cases h:c=d
   ·subst h
    exact .inr ⟨0,by simp [Lib.indexByte],by simp,by simp,by simp⟩
   ·have hb:(c==d)=false:=by simpa using h
    rcases ih with ⟨h1,h2⟩ | ⟨i,h1,h2,h3,h4⟩
    ·exact .inl ⟨by simp [Lib.indexByte,hb,h1],by simp [h2,Ne.symm h]⟩
    ·refine .inr ⟨i+1,by simp [Lib.indexByte,hb,h1],by simpa using h2,?_,?_⟩
     ·simp [h3,Ne.symm h]
     ·simpa using h4
theorem piece_ahead (s:ByteArray) (i:Nat):s.extract 0 i=mkB (s.data.toList.take i):=by
 apply ByteArray.ext
 apply Array.ext'
 rw [ByteArray.data_extract,Array.toList_extract]
 simp [mkB]
theorem piece_behind (s:ByteArray) (i:Nat):s.extract i s.size=mkB (s.data.toList.drop i):=by
 apply ByteArray.ext
 apply Array.ext'
 exact Lib.extract_to_end s i
theorem piece_mid (s:ByteArray) (i j:Nat):s.extract i j=mkB ((s.data.toList.drop i).take (j - i)):=by
 apply ByteArray.ext
 apply Array.ext'
 rw [ByteArray.data_extract,Array.toList_extract]
 simp [mkB,List.extract_eq_take_drop]
end Go.Proofs.YtdegffffcbhjbaaGreatDoor
end
section
namespace Go.Proofs.YtdegffffcbhjbaaGreatDoor
def gapR (r:Nat):Bool:=r==9 || r==32
theorem gapR_byte (c:UInt8):gapR c.toNat=gapB c:=by
 unfold gapR gapB
 have e1:(c.toNat==9)=(c==9):=by
  rw [Bool.eq_iff_iff];simp [←UInt8.toNat_inj]
 have e2:(c.toNat==32)=(c==32):=by
  rw [Bool.eq_iff_iff];simp [←UInt8.toNat_inj]
 rw [e1,e2]
def pieceL (l:List UInt8) (x:Nat × Nat):List UInt8:=(l.drop x.1).take (x.2 - x.1)
def openL (l:List UInt8) (st:Option Nat) (pos:Nat):List UInt8:=match st with
 | some a=>pieceL l (a,pos)
 | none=>[]
theorem pieceL_ne (l:List UInt8) (a b:Nat) (h:a < b) (hb:b≤l.length):pieceL l (a,b)≠[]:=by
 intro h0
 have:=congrArg List.length h0
 simp [pieceL] at this
 omega
theorem pieceL_snoc (l:List UInt8) (a b:Nat) (h:a≤b) (hb:b < l.length):pieceL l (a,b)++[l[b]]=pieceL l (a,b+1):=by
 unfold pieceL
 have e:b+1 - a=(b - a)+1:=by omega
 rw [e,List.take_succ_eq_append_getElem (by simp;omega)]
 congr 2
 simp only [List.getElem_drop]
 congr 1
 omega
theorem spans_plain (s:ByteArray) (hs:∀ c∈s.data.toList,c.toNat < 128):∀ (f pos:Nat) (st:Option Nat) (acc:List (Nat × Nat)),s.size≤pos+f→pos≤s.size→(∀ a,st=some a→a < pos) →
 (Lib.closeSpans s (Lib.spansFromP gapR s f pos st acc)).map (pieceL s.data.toList)=acc.map (pieceL s.data.toList)++fieldsGo (openL s.data.toList st pos) (s.data.toList.drop pos)
 | 0,pos,st,acc,h,hp,hst=>by
   obtain rfl:pos=s.size:=by omega
   have hd:s.data.toList.drop s.size=[]:=List.drop_eq_nil_of_le (by rw [size_list];exact Nat.le_refl _)
   rw [hd]
   cases st with
   | none=>simp [Lib.spansFromP,Lib.closeSpans,openL,fieldsGo]
   | some a =>
     have:=pieceL_ne s.data.toList a s.size (hst a rfl) (by rw [size_list];exact Nat.le_refl _)
     simp [Lib.spansFromP,Lib.closeSpans,openL,fieldsGo,this]
 | f+1,pos,st,acc,h,hp,hst=>by
   by_cases hlt:pos < s.size
   ·have hl:pos < s.data.toList.length:=by rw [size_list];exact hlt
    have hget:s[pos]'hlt=s.data.toList[pos]'hl:=by simp [ByteArray.getElem_eq_getElem_data]
    have hdc:=decode_ascii s pos hlt (by rw [hget];exact hs _ (List.getElem_mem hl))
    rw [hget] at hdc
    have hdrop:s.data.toList.drop pos=s.data.toList[pos]::s.data.toList.drop (pos+1):=List.drop_eq_getElem_cons hl
    rw [hdrop]
    simp only [Lib.spansFromP,hlt,if_true,hdc,gapR_byte,fieldsGo]
    cases hg:gapB s.data.toList[pos] with
    | true =>
      cases st with
      | none =>
        simp only [if_true]
        rw [spans_plain s hs f (pos+1) none acc (by omega) (by omega) (fun a h=>by cases h)]
        simp [openL]
      | some a =>
        have hne:=pieceL_ne s.data.toList a pos (hst a rfl) (by omega)
        simp only [if_true]
        rw [spans_plain s hs f (pos+1) none _ (by omega) (by omega) (fun a h=>by cases h)]
        simp [openL,hne]
    | false =>
      cases st with
      | none =>
        simp only [Bool.false_eq_true,if_false]
        rw [spans_plain s hs f (pos+1) (some pos) acc (by omega) (by omega) (fun a h=>by cases h;omega)]
        simp only [openL]
        rw [←pieceL_snoc s.data.toList pos pos (Nat.le_refl _) hl]
        simp [pieceL]
      | some a =>
        have ha:=hst a rfl
        simp only [Bool.false_eq_true,if_false]
        rw [spans_plain s hs f (pos+1) (some a) acc (by omega) (by omega) (fun b h=>by cases h;omega)]
        simp only [openL]
        rw [←pieceL_snoc s.data.toList a pos (by omega) hl]
   ·obtain rfl:pos=s.size:=by omega
    have hd:s.data.toList.drop s.size=[]:=List.drop_eq_nil_of_le (by rw [size_list];exact Nat.le_refl _)
    rw [hd,Lib.spansFromP_end _ _ _ _ _ _ hlt]
    cases st with
    | none=>simp [Lib.closeSpans,openL,fieldsGo]
    | some a =>
      have:=pieceL_ne s.data.toList a s.size (hst a rfl) (by rw [size_list];exact Nat.le_refl _)
      simp [Lib.closeSpans,openL,fieldsGo,this]
theorem fields_plain (s:ByteArray) (hs:∀ c∈s.data.toList,c.toNat < 128):Lib.goFieldsP gapR s=(fieldsGo [] s.data.toList).map mkB:=by
 have h:=spans_plain s hs s.size 0 none [] (by omega) (Nat.zero_le _) (fun a h=>by cases h)
 simp only [List.map_nil,List.nil_append,openL,List.drop_zero] at h
 rw [←h,List.map_map]
 unfold Lib.goFieldsP Lib.spansOfP
 apply List.map_congr_left
 intro x _
 exact piece_mid s x.1 x.2
end Go.Proofs.YtdegffffcbhjbaaGreatDoor
end
section
namespace Go.Proofs.YtdegffffcbhjbaaGreatDoor
open Go.RowKit
def fit (n:Int):Bool:=decide (-9223372036854775808≤n) && decide (n≤9223372036854775807)
theorem fit_iff (n:Int):fit n=true ↔ -9223372036854775808≤n∧n≤9223372036854775807:=by simp [fit]
theorem fit_no (n:Int):fit n=false ↔ n < -9223372036854775808∨9223372036854775807 < n:=by
 rw [←Bool.not_eq_true,fit_iff];omega
def In64 (a:Int):Prop:=-9223372036854775808≤a∧a≤9223372036854775807
theorem in64_of_fit {a:Int} (h:fit a=true):In64 a:=(fit_iff a).1 h
theorem ret_bool {a b:Bool} (h:a=b):Ending.returned (.bool a)=.returned (.bool b):=by rw [h]
end Go.Proofs.YtdegffffcbhjbaaGreatDoor
end
section
namespace Go.Proofs.YtdegffffcbhjbaaGreatDoor
open Go.RowKit
def letB (n:Nat):Bool:=decide (97≤n∧n≤122∨65≤n∧n≤90)
def inB (n:Nat):Bool:=decide ((97≤n∧n≤122∨65≤n∧n≤90)∨48≤n∧n≤57∨n=46∨n=95∨n=45)
def nameL (l:List UInt8):Bool:=decide (1≤l.length∧l.length≤12) && letB (l.headD 0).toNat && l.all fun c=>inB c.toNat
theorem ret_bdec {p:Prop} [Decidable p] {b:Bool} (h:b=true ↔ p):Ending.returned (.bool b)=.returned (.bool (decide p)):=by
 congr 2;rw [Bool.eq_iff_iff];simpa using h
set_option maxHeartbeats 400000 in
theorem letter_any (n:Nat) (w:World) (hn:n < 256):Calls Tryz.prog 145 #[.int .u8 (n:Int)] w fun e w'=>e=.returned (.bool (letB n))∧w=w':=by
 go_enter Tryz.func145,Tryz.ntmps145
 go_wp2
 all_goals
  go_ret
  exact ⟨ret_bdec (by first | omega | (simp;omega)),rfl⟩
set_option maxHeartbeats 400000 in
theorem between_any (n:Nat) (w:World) (hn:n≤1114111):Calls Tryz.prog 83 #[.int .i32 (n:Int)] w fun e w'=>e=.returned (.bool (gapR n))∧w=w':=by
 have e1:gapR n=decide (n=9∨n=32):=by unfold gapR;rw [Bool.eq_iff_iff];simp
 rw [e1]
 clear e1
 go_enter Tryz.func83,Tryz.ntmps83
 go_wp2
 all_goals
  go_ret
  exact ⟨ret_bdec (by first | omega | (simp;omega)),rfl⟩
set_option maxHeartbeats 400000 in
theorem inName_any (n:Nat) (w:World) (hn:n < 256):Calls Tryz.prog 146 #[.int .u8 (n:Int)] w fun e w'=>e=.returned (.bool (inB n))∧w=w':=by
 cases hl:letB n with
 | true =>
   have H:=Lib.hid hl
   have hp:97≤n∧n≤122∨65≤n∧n≤90:=of_decide_eq_true hl
   clear hl
   go_enter Tryz.func146,Tryz.ntmps146
   go_wp2_with fail
   refine (letter_any n _ hn).mono ?_
   rintro e w' ⟨rfl,rfl⟩
   rw [H.out]
   go_wp2
   all_goals
    go_ret
    exact ⟨ret_bdec (by first | omega | (simp;omega)),rfl⟩
 | false =>
   have H:=Lib.hid hl
   have hp:¬ (97≤n∧n≤122∨65≤n∧n≤90):=of_decide_eq_false hl
   clear hl
   go_enter Tryz.func146,Tryz.ntmps146
   go_wp2_with fail
   refine (letter_any n _ hn).mono ?_
   rintro e w' ⟨rfl,rfl⟩
   rw [H.out]
   go_wp2
   all_goals
    go_ret
    exact ⟨ret_bdec (by first | omega | (simp;omega)),rfl⟩
theorem all_take (p:UInt8→Bool) (s:ByteArray) (k:Nat) (h:k < s.size):(s.data.toList.take (k+1)).all p=((s.data.toList.take k).all p && p s[k]):=by
 rw [List.take_succ_eq_append_getElem (by rw [size_list];exact h),List.all_append];simp;rfl
theorem all_no (p:UInt8→Bool) (s:ByteArray) (k:Nat) (h:k < s.size) (hp:p s[k]=false):s.data.toList.all p=false:=by
 cases h':s.data.toList.all p with
 | false=>rfl
 | true =>
   have:=List.all_eq_true.1 h' s[k] (by
    have:s[k]=s.data.toList[k]'(by rw [size_list];exact h):=by simp [ByteArray.getElem_eq_getElem_data]
    rw [this];exact List.getElem_mem _)
   rw [←hp];exact this.symm
theorem all_end (p:UInt8→Bool) (s:ByteArray) (k:Nat) (h:¬ k < s.size) (hk:k≤s.size) (ha:(s.data.toList.take k).all p=true):s.data.toList.all p=true:=by
 rwa [List.take_of_length_le (by rw [size_list];omega)] at ha
theorem head_at (s:ByteArray) (h:0 < s.size):s.data.toList.headD 0=s[0]:=by
 have:s[0]=s.data.toList[0]'(by rw [size_list];exact h):=by simp [ByteArray.getElem_eq_getElem_data]
 rw [this,List.headD_eq_head?_getD,List.head?_eq_getElem?,List.getElem?_eq_getElem (by rw [size_list];exact h)]
 rfl
theorem nameL_eq (s:ByteArray) (h:0 < s.size) (h2:s.size≤12):nameL s.data.toList=(letB s[0].toNat && s.data.toList.all fun c=>inB c.toNat):=by
 unfold nameL
 rw [head_at s h,size_list]
 have:decide (1≤s.size∧s.size≤12)=true:=decide_eq_true (by omega)
 rw [this];rfl
theorem nameL_len (s:ByteArray) (h:¬ (0 < s.size∧s.size≤12)):nameL s.data.toList=false:=by
 unfold nameL
 rw [size_list]
 have:decide (1≤s.size∧s.size≤12)=false:=decide_eq_false (by omega)
 rw [this];rfl
set_option maxHeartbeats 1000000 in
theorem name_at (s:ByteArray) (w:World) :
 Calls Tryz.prog 107 #[.string s] w fun e w'=>e=.returned (.bool (nameL s.data.toList))∧w=w':=by
 by_cases hl:0 < s.size∧s.size≤12
 ·obtain ⟨h0,h12⟩:=hl
  have HN:=Lib.hid (nameL_eq s h0 h12)
  cases hf:letB s[0].toNat with
  | false =>
    have HF:=Lib.hid hf
    clear hf
    have HR:Hid (nameL s.data.toList=false):=Lib.hid (by rw [HN.out,HF.out];rfl)
    have a1:¬ s.size < 1:=by omega
    have a2:¬ 12 < s.size:=by omega
    go_enter Tryz.func107,Tryz.ntmps107
    go_wp2_with fail
    refine (letter_any _ _ (UInt8.toNat_lt _)).mono ?_
    rintro e w' ⟨rfl,rfl⟩
    rw [HF.out]
    go_wp2
    go_ret
    exact ⟨ret_bool HR.out.symm,rfl⟩
  | true =>
    have HF:=Lib.hid hf
    clear hf
    have HR:Hid (nameL s.data.toList=s.data.toList.all fun c=>inB c.toNat):=Lib.hid (by rw [HN.out,HF.out];rfl)
    clear HN
    have a1:¬ s.size < 1:=by omega
    have a2:¬ 12 < s.size:=by omega
    go_enter Tryz.func107,Tryz.ntmps107
    go_wp2_with fail
    refine (letter_any _ _ (UInt8.toNat_lt _)).mono ?_
    rintro e w' ⟨rfl,rfl⟩
    rw [HF.out]
    go_wp2
    go_loop [20] (fun i=>∃ k:Nat,k≤s.size∧i=.int .i64 k∧(s.data.toList.take k).all (fun c=>inB c.toNat)=true) (fun i=>s.size - (intOf i).toNat)
    case atStart=>exact ⟨0,Nat.zero_le _,rfl,rfl⟩
    case round =>
     obtain ⟨k,hk,rfl,hd⟩:=hrel
     have HD:=Lib.hid hd
     clear hd
     by_cases hlt:k < s.size
     ·cases hc:inB s[k].toNat with
      | true =>
        have HC:=Lib.hid hc
        clear hc
        go_wp2_with fail
        refine (inName_any _ _ (UInt8.toNat_lt _)).mono ?_
        rintro e w' ⟨rfl,rfl⟩
        rw [HC.out]
        go_wp2
        go_round
        case rel=>exact ⟨k+1,by omega,by go_num,by rw [all_take _ s k hlt,HD.out,HC.out];rfl⟩
        case measure=>simp [intOf];omega
      | false =>
        have HC:=Lib.hid hc
        clear hc
        go_wp2_with fail
        refine (inName_any _ _ (UInt8.toNat_lt _)).mono ?_
        rintro e w' ⟨rfl,rfl⟩
        rw [HC.out]
        go_wp2
        go_ret
        exact ⟨ret_bool (by rw [HR.out,all_no _ s k hlt HC.out]),rfl⟩
     ·go_wp2
      go_ret
      exact ⟨ret_bool (by rw [HR.out,all_end _ s k hlt hk HD.out]),rfl⟩
 ·have HR:=Lib.hid (nameL_len s hl)
  rcases (by omega:s.size < 1∨(¬ s.size < 1∧12 < s.size)) with a1 | ⟨a1,a2⟩
  ·clear hl
   go_enter Tryz.func107,Tryz.ntmps107
   go_wp2
   go_ret
   exact ⟨ret_bool HR.out.symm,rfl⟩
  ·clear hl
   go_enter Tryz.func107,Tryz.ntmps107
   go_wp2
   go_ret
   exact ⟨ret_bool HR.out.symm,rfl⟩
theorem okB_dec (c:UInt8):okB c=decide (c.toNat=9∨c.toNat=10∨32≤c.toNat∧c.toNat≤126):=by
 unfold okB
 rw [Bool.eq_iff_iff]
 simp [←UInt8.toNat_inj]
 omega
set_option maxHeartbeats 1000000 in
theorem readable_any (s:ByteArray) (w:World) (hs:s.size≤maxLen) :
 Calls Tryz.prog 49 #[.string s] w fun e w'=>e=.returned (.bool (okL s.data.toList))∧w=w':=by
 unfold maxLen at hs
 go_enter Tryz.func49,Tryz.ntmps49
 go_wp2
 go_loop [7] (fun i=>∃ k:Nat,k≤s.size∧i=.int .i64 k∧(s.data.toList.take k).all okB=true) (fun i=>s.size - (intOf i).toNat)
 case atStart=>exact ⟨0,Nat.zero_le _,rfl,rfl⟩
 case round =>
  obtain ⟨k,hk,rfl,hd⟩:=hrel
  have HD:=Lib.hid hd
  clear hd
  by_cases hlt:k < s.size
  ·have HO:=Lib.hid (okB_dec s[k])
   have hb:s[k].toNat < 256:=UInt8.toNat_lt _
   go_wp2
   all_goals first
    | (go_ret
       exact ⟨ret_bool (show false=okL s.data.toList from (all_no okB s k hlt (by rw [HO.out];exact decide_eq_false (by omega))).symm),rfl⟩)
    | (go_round
       case rel=>exact ⟨k+1,by omega,by go_num,by rw [all_take okB s k hlt,HD.out,HO.out];exact decide_eq_true (by first | omega | (simp only [bne_eq_false_iff_eq] at *;omega))⟩
       case measure=>simp [intOf];omega)
  ·go_wp2
   go_ret
   exact ⟨ret_bool (all_end _ s k hlt hk HD.out).symm,rfl⟩
end Go.Proofs.YtdegffffcbhjbaaGreatDoor
end
section
namespace Go.Proofs.YtdegffffcbhjbaaGreatDoor
open Go.RowKit
structure Acct where
 code:ByteArray
 cls:Int
 cash:Bool
 both:Bool
 fixed:ByteArray
 worn:Bool
theorem Acct.ext' {a b:Acct} (h0:a.code=b.code) (h1:a.cls=b.cls) (h2:a.cash=b.cash) (h3:a.both=b.both) (h4:a.fixed=b.fixed) (h5:a.worn=b.worn):a=b:=by
 cases a;cases b;simp_all
instance : DecidableEq Acct:=fun a b =>
 if h:a.code=b.code∧a.cls=b.cls∧a.cash=b.cash∧a.both=b.both∧a.fixed=b.fixed∧a.worn=b.worn then isTrue (Acct.ext' h.1 h.2.1 h.2.2.1 h.2.2.2.1 h.2.2.2.2.1 h.2.2.2.2.2)
 else isFalse fun e=>h (by subst e;exact ⟨rfl,rfl,rfl,rfl,rfl,rfl⟩)
def Acct.cells (a:Acct):List Value:=[.string a.code,.int .i64 a.cls,.bool a.cash,.bool a.both,.string a.fixed,.bool a.worn]
def zeroA:Acct:=⟨⟨#[]⟩,0,false,false,⟨#[]⟩,false⟩
def nmB (s:ByteArray):Bool:=nameL s.data.toList
def neB (s:ByteArray):Bool:=!s.toList.isEmpty
theorem neB_empty:neB ⟨#[]⟩=false:=by unfold neB;rw [ByteArray.toList_eq];rfl
theorem neB_iff (s:ByteArray):neB s=true ↔ s≠⟨#[]⟩:=by
 unfold neB
 constructor
 ·intro h e;subst e;rw [ByteArray.toList_eq] at h;cases h
 ·intro h
  cases hs:s.toList.isEmpty with
  | false=>rfl
  | true =>
    refine absurd ?_ h
    obtain ⟨⟨l⟩⟩:=s
    rw [ByteArray.toList_eq] at hs
    simp at hs
    subst hs
    rfl
def marksA (a:Acct):Bool :=
 if (neB a.fixed && !nmB a.fixed)=true then false
 else if (a.worn && !neB a.fixed)=true then false
 else if (a.cash && neB a.fixed)=true then false
 else if (a.cash && a.both)=true then false
 else if (neB a.fixed && a.both)=true then false
 else if (a.cash || neB a.fixed)=true then (a.cls==0)
 else if a.both=true then (a.cls != 2)
 else true
def rightA (a:Acct):Bool:=nmB a.code && decide (0≤a.cls) && decide (a.cls < 3) && marksA a
def tAccount:ByteArray:=⟨#[97,99,99,111,117,110,116]⟩
def tAsset:ByteArray:=⟨#[97,115,115,101,116]⟩
def tLiability:ByteArray:=⟨#[108,105,97,98,105,108,105,116,121]⟩
def tEquity:ByteArray:=⟨#[101,113,117,105,116,121]⟩
def tCash:ByteArray:=⟨#[99,97,115,104]⟩
def tMutual:ByteArray:=⟨#[109,117,116,117,97,108]⟩
def tWorn:ByteArray:=⟨#[119,111,114,110]⟩
def tFixed:ByteArray:=⟨#[102,105,120,101,100]⟩
def clsW (n:Int):ByteArray:=if n=0 then tAsset else if n=1 then tLiability else tEquity
def markW (a:Acct):List ByteArray:=if a.cash=true then [tCash] else if a.both=true then [tMutual] else if a.worn=true then [tWorn,a.fixed] else if neB a.fixed=true then [tFixed,a.fixed] else []
def wordsA (a:Acct):List ByteArray:=if rightA a=true then tAccount::a.code::clsW a.cls::markW a else []
def clsOf (s:ByteArray):Int:=if s=tAsset then 0 else if s=tLiability then 1 else if s=tEquity then 2 else -1
def markedA (a:Acct):List ByteArray→Acct
 | [x]=>{ a with cash:=decide (x=tCash),both:=decide (x=tMutual) }
 | [x,y]=>{ a with fixed:=y,worn:=decide (x=tWorn) }
 | _=>a
def candA (ws:List ByteArray):Acct:=markedA ⟨ws.getD 1 ⟨#[]⟩,clsOf (ws.getD 2 ⟨#[]⟩),false,false,⟨#[]⟩,false⟩ (ws.drop 3)
def parseA (ws:List ByteArray):Acct × Int:=if ws.length < 3 then (zeroA,5) else if wordsA (candA ws)=ws then (candA ws,0) else (zeroA,5)
theorem right_parts {a:Acct} (h:rightA a=true):nmB a.code=true∧(a.cls=0∨a.cls=1∨a.cls=2)∧marksA a=true:=by
 unfold rightA at h
 simp only [Bool.and_eq_true,decide_eq_true_eq] at h
 obtain ⟨⟨⟨h1,h2⟩,h3⟩,h4⟩:=h
 exact ⟨h1,by omega,h4⟩
theorem marks_ways {a:Acct} (h:marksA a=true) :
 (a.cash=false∧a.both=false∧a.fixed=⟨#[]⟩∧a.worn=false) ∨
 (a.cash=true∧a.both=false∧a.fixed=⟨#[]⟩∧a.worn=false∧a.cls=0) ∨
 (a.cash=false∧a.both=true∧a.fixed=⟨#[]⟩∧a.worn=false∧a.cls≠2) ∨
 (a.cash=false∧a.both=false∧nmB a.fixed=true∧neB a.fixed=true∧a.worn=false∧a.cls=0) ∨
 (a.cash=false∧a.both=false∧nmB a.fixed=true∧neB a.fixed=true∧a.worn=true∧a.cls=0):=by
 obtain ⟨co,cl,ca,mu,fi,wo⟩:=a
 unfold marksA at h
 simp only at h ⊢
 by_cases hf:fi=⟨#[]⟩
 ·subst hf
  rw [neB_empty] at h ⊢
  cases ca <;> cases mu <;> cases wo <;> simp_all
 ·have hn:=(neB_iff fi).2 hf
  rw [hn] at h ⊢
  cases hm:nmB fi <;> cases ca <;> cases mu <;> cases wo <;> simp_all
theorem clsOf_clsW {n:Int} (h:n=0∨n=1∨n=2):clsOf (clsW n)=n:=by
 rcases h with rfl | rfl | rfl <;> decide
theorem parse_words {a:Acct} (h:rightA a=true):parseA (wordsA a)=(a,0):=by
 obtain ⟨h1,h2,h3⟩:=right_parts h
 have hw:wordsA a=tAccount::a.code::clsW a.cls::markW a:=by unfold wordsA;rw [if_pos h]
 have hc:candA (wordsA a)=a:=by
  rw [hw]
  unfold candA
  simp only [List.getD_cons_succ,List.getD_cons_zero,List.drop_succ_cons,List.drop_zero]
  rw [clsOf_clsW h2]
  have t1:decide (tCash=tMutual)=false:=by decide
  have t2:decide (tMutual=tCash)=false:=by decide
  have t3:decide (tFixed=tWorn)=false:=by decide
  rcases marks_ways h3 with ⟨e1,e2,e3,e4⟩ | ⟨e1,e2,e3,e4,e5⟩ | ⟨e1,e2,e3,e4,e5⟩ | ⟨e1,e2,e3,e6,e4,e5⟩ | ⟨e1,e2,e3,e6,e4,e5⟩ <;>
   obtain ⟨co,cl,ca,mu,fi,wo⟩:=a <;> simp only at e1 e2 e3 e4 ⊢ <;> subst e1 e2 e4
  ·subst e3;simp [markW,markedA,neB_empty]
  ·subst e3;simp [markW,markedA,t1]
  ·subst e3;simp [markW,markedA,t2]
  ·simp only at e6;simp [markW,markedA,e6,t3]
  ·simp [markW,markedA]
 unfold parseA
 rw [hc,if_neg (by rw [hw];simp),if_pos rfl]
theorem words_nil {a:Acct} (h:rightA a=false):wordsA a=[]:=by unfold wordsA;rw [h];rfl
theorem parse_ok {ws:List ByteArray} (h:(parseA ws).2=0):wordsA (parseA ws).1=ws∧rightA (parseA ws).1=true:=by
 unfold parseA at h ⊢
 by_cases h3:ws.length < 3
 ·rw [if_pos h3] at h;simp at h
 ·rw [if_neg h3] at h ⊢
  by_cases hw:wordsA (candA ws)=ws
  ·rw [if_pos hw]
   refine ⟨hw,?_⟩
   cases hr:rightA (candA ws) with
   | true=>rfl
   | false =>
     rw [words_nil hr] at hw
     subst hw
     simp at h3
  ·rw [if_neg hw] at h;simp at h
theorem parse_err (ws:List ByteArray):parseA ws=(zeroA,5)∨(wordsA (parseA ws).1=ws∧rightA (parseA ws).1=true∧(parseA ws).2=0):=by
 by_cases h:(parseA ws).2=0
 ·exact .inr ⟨(parse_ok h).1,(parse_ok h).2,h⟩
 ·left
  unfold parseA at h ⊢
  split
  ·rfl
  ·split
   ·rename_i h1 h2;rw [if_neg h1,if_pos h2] at h;exact absurd rfl h
   ·rfl
theorem parse_of {a:Acct} {ws:List ByteArray} (hr:rightA a=true) (h:wordsA a=ws):parseA ws=(a,0):=by rw [←h];exact parse_words hr
def ltS (x y:ByteArray):Bool:=Op.bytesLess x.toList y.toList
theorem less_iff:∀ (x y:List UInt8),Op.bytesLess x y=true ↔ x < y
 | [],[]=>by simp [Op.bytesLess]
 | [],_::_=>by simp [Op.bytesLess]
 | _::_,[]=>by simp [Op.bytesLess]
 | a::x,b::y=>by
   have ih:=less_iff x y
   rw [List.cons_lt_cons_iff]
   unfold Op.bytesLess
   by_cases h:a=b
   ·subst h;simp [ih]
   ·simp [h]
theorem ltS_iff (x y:ByteArray):ltS x y=true ↔ x.toList < y.toList:=by unfold ltS;exact less_iff _ _
theorem toList_inj {x y:ByteArray} (h:x.toList=y.toList):x=y:=by
 rw [ByteArray.toList_eq,ByteArray.toList_eq] at h
 obtain ⟨⟨a⟩⟩:=x;obtain ⟨⟨b⟩⟩:=y
 simp at h;rw [h]
theorem ltS_trans {x y z:ByteArray} (h1:ltS x y=true) (h2:ltS y z=true):ltS x z=true:=by
 rw [ltS_iff] at *;exact List.lt_trans h1 h2
theorem ltS_irr (x:ByteArray):ltS x x=false:=by
 cases h:ltS x x with
 | false=>rfl
 | true=>rw [ltS_iff] at h;exact absurd h (List.lt_irrefl _)
theorem ltS_asymm {x y:ByteArray} (h:ltS x y=true):ltS y x=false:=by
 cases h':ltS y x with
 | false=>rfl
 | true=>rw [←ltS_irr x];exact (ltS_trans h h').symm
theorem less_total:∀ (x y:List UInt8),Op.bytesLess x y=false→x≠y→Op.bytesLess y x=true
 | [],[],_,h=>absurd rfl h
 | [],_::_,h,_=>by simp [Op.bytesLess] at h
 | _::_,[],_,_=>by simp [Op.bytesLess]
 | a::x,b::y,h,hne=>by
   unfold Op.bytesLess at h ⊢
   simp only [Bool.or_eq_false_iff,decide_eq_false_iff_not,Bool.and_eq_false_iff,beq_eq_false_iff_ne,Bool.or_eq_true,decide_eq_true_eq,Bool.and_eq_true,beq_iff_eq] at h ⊢
   by_cases hab:a=b
   ·subst hab
    refine .inr ⟨rfl,less_total x y ?_ (fun e=>hne (by rw [e]))⟩
    rcases h.2 with h' | h'
    ·exact absurd rfl h'
    ·exact h'
   ·left
    rw [UInt8.lt_iff_toNat_lt] at h ⊢
    have:a.toNat≠b.toNat:=fun e=>hab (UInt8.toNat_inj.1 e)
    omega
theorem ltS_total {x y:ByteArray} (h:ltS x y=false) (hne:x≠y):ltS y x=true:=less_total _ _ h (fun e=>hne (toList_inj e))
end Go.Proofs.YtdegffffcbhjbaaGreatDoor
end
section
namespace Go.Proofs.YtdegffffcbhjbaaGreatDoor
open Go.RowKit
def gtS (x y:ByteArray):Bool:=!(ltS x y || x.toList==y.toList)
theorem gtS_iff (x y:ByteArray):gtS x y=true ↔ ltS y x=true:=by
 unfold gtS
 constructor
 ·intro h
  simp only [Bool.not_eq_true',Bool.or_eq_false_iff] at h
  exact ltS_total h.1 (fun e=>by subst e;simp at h)
 ·intro h
  rw [ltS_asymm h]
  have:(x.toList==y.toList)=false:=by
   cases e:x.toList==y.toList with
   | false=>rfl
   | true =>
     have:=toList_inj (eq_of_beq e)
     subst this
     rw [ltS_irr] at h;cases h
  rw [this];rfl
theorem gtS_no {x y:ByteArray} (h:gtS x y=false) (hne:x≠y):ltS x y=true:=by
 cases h':ltS x y with
 | true=>rfl
 | false=>rw [(gtS_iff x y).2 (ltS_total h' hne)] at h;cases h
def findL:List Acct→ByteArray→Option Acct
 | [],_=>none
 | a::L,c=>if a.code=c then some a else findL L c
def belowL:List Acct→ByteArray→Nat
 | [],_=>0
 | a::L,c=>if gtS a.code c=true then 0 else belowL L c+1
def insL:List Acct→Acct→List Acct
 | [],x=>[x]
 | a::L,x=>if gtS a.code x.code=true then x::a::L else a::insL L x
def addE (L:List Acct) (a:Acct):Int:=if rightA a=false then 1 else if (findL L a.code).isSome=true then 7 else if 60≤L.length then 4 else 0
def addV (L:List Acct) (a:Acct):List Acct:=if addE L a=0 then insL L a else L
def riseL:List Acct→Bool
 | a::b::L=>ltS a.code b.code && riseL (b::L)
 | _=>true
theorem belowL_le (L:List Acct) (c:ByteArray):belowL L c≤L.length:=by
 induction L with
 | nil=>exact Nat.le_refl _
 | cons a L ih=>simp only [belowL];split <;> simp;omega
theorem insL_eq (L:List Acct) (x:Acct):insL L x=L.take (belowL L x.code)++x::L.drop (belowL L x.code):=by
 induction L with
 | nil=>rfl
 | cons a L ih =>
   simp only [insL,belowL]
   split
   ·rfl
   ·rw [ih];simp
theorem insL_length (L:List Acct) (x:Acct):(insL L x).length=L.length+1:=by
 induction L with
 | nil=>rfl
 | cons a L ih=>simp only [insL];split <;> simp [ih]
theorem addE_zero {L:List Acct} {a:Acct} (h:addE L a=0):rightA a=true∧findL L a.code=none∧L.length < 60:=by
 unfold addE at h
 cases hr:rightA a with
 | false=>rw [hr] at h;simp at h
 | true =>
   rw [hr] at h
   simp only [Bool.true_eq_false,if_false] at h
   cases hf:findL L a.code with
   | some x=>rw [hf] at h;simp at h
   | none =>
     rw [hf] at h
     simp only [Option.isSome_none,Bool.false_eq_true,if_false] at h
     refine ⟨rfl,rfl,?_⟩
     split at h
     ·simp at h
     ·omega
theorem find_mem {L:List Acct} {c:ByteArray} {x:Acct} (h:findL L c=some x):x.code=c∧x∈L:=by
 induction L with
 | nil=>cases h
 | cons a L ih =>
   simp only [findL] at h
   split at h
   ·cases h;exact ⟨by assumption,List.mem_cons_self⟩
   ·exact ⟨(ih h).1,List.mem_cons_of_mem _ (ih h).2⟩
theorem rise_tail {a:Acct} {L:List Acct} (h:riseL (a::L)=true):riseL L=true:=by
 cases L with
 | nil=>rfl
 | cons b L=>simp only [riseL,Bool.and_eq_true] at h;exact h.2
theorem rise_ins (L:List Acct) (x:Acct) (hr:riseL L=true) (h:findL L x.code=none):riseL (insL L x)=true:=by
 induction L with
 | nil=>rfl
 | cons a L ih =>
   simp only [findL] at h
   split at h
   ·cases h
   ·rename_i hne
    simp only [insL]
    split
    ·rename_i hg
     simp only [riseL,Bool.and_eq_true]
     exact ⟨(gtS_iff _ _).1 hg,hr⟩
    ·rename_i hg
     have hlt:ltS a.code x.code=true:=gtS_no (by simpa using hg) hne
     have ih':=ih (rise_tail hr) h
     cases L with
     | nil=>simp [insL,riseL,hlt]
     | cons b L =>
       simp only [insL] at ih' ⊢
       split
       ·rename_i hg2
        rw [if_pos hg2] at ih'
        simp only [riseL,Bool.and_eq_true] at ih' ⊢
        exact ⟨hlt,ih'⟩
       ·rename_i hg2
        rw [if_neg hg2] at ih'
        simp only [riseL,Bool.and_eq_true] at hr
        cases hL:insL L x with
        | nil=>simp [riseL,hr.1]
        | cons c M =>
          rw [hL] at ih'
          simp only [riseL,Bool.and_eq_true] at ih' ⊢
          exact ⟨hr.1,ih'⟩
theorem find_at {L:List Acct} {c:ByteArray} {i:Nat} {x:Acct} (hb:∀ (j:Nat) (y:Acct),j < i→L[j]?=some y→y.code≠c) (hx:L[i]?=some x) (h:x.code=c):findL L c=some x:=by
 induction L generalizing i with
 | nil=>simp at hx
 | cons a L ih =>
   cases i with
   | zero=>simp at hx;subst hx;simp [findL,h]
   | succ i =>
     have h0:=hb 0 a (by omega) rfl
     simp only [findL,if_neg h0]
     exact ih (i:=i) (fun j y hj hy=>hb (j+1) y (by omega) (by simpa using hy)) (by simpa using hx)
theorem find_none {L:List Acct} {c:ByteArray} (h:∀ (j:Nat) (y:Acct),L[j]?=some y→y.code≠c):findL L c=none:=by
 induction L with
 | nil=>rfl
 | cons a L ih =>
   simp only [findL,if_neg (h 0 a rfl)]
   exact ih fun j y hy=>h (j+1) y (by simpa using hy)
theorem below_at {L:List Acct} {c:ByteArray} {i:Nat} {x:Acct} (hb:∀ (j:Nat) (y:Acct),j < i→L[j]?=some y→gtS y.code c=false) (hx:L[i]?=some x) (h:gtS x.code c=true):belowL L c=i:=by
 induction L generalizing i with
 | nil=>simp at hx
 | cons a L ih =>
   cases i with
   | zero=>simp at hx;subst hx;simp [belowL,h]
   | succ i =>
     have h0:=hb 0 a (by omega) rfl
     simp only [belowL,h0,Bool.false_eq_true,if_false]
     rw [ih (i:=i) (fun j y hj hy=>hb (j+1) y (by omega) (by simpa using hy)) (by simpa using hx)]
theorem below_none {L:List Acct} {c:ByteArray} (h:∀ (j:Nat) (y:Acct),L[j]?=some y→gtS y.code c=false):belowL L c=L.length:=by
 induction L with
 | nil=>rfl
 | cons a L ih =>
   simp only [belowL,h 0 a rfl,Bool.false_eq_true,if_false]
   rw [ih fun j y hy=>h (j+1) y (by simpa using hy)]
   rfl
end Go.Proofs.YtdegffffcbhjbaaGreatDoor
end
section
namespace Go.Proofs.YtdegffffcbhjbaaGreatDoor.G
open Go.RowKit
class KeyO (κ:Type) where
 lt:κ→κ→Bool
 trans:∀ {x y z:κ},lt x y=true→lt y z=true→lt x z=true
 irr:∀ x:κ,lt x x=false
 total:∀ {x y:κ},lt x y=false→x≠y→lt y x=true
instance : KeyO ByteArray:=⟨ltS,ltS_trans,ltS_irr,ltS_total⟩
def ltP (x y:ByteArray × ByteArray):Bool:=ltS x.1 y.1 || (decide (x.1=y.1) && ltS x.2 y.2)
theorem ltP_iff (x y:ByteArray × ByteArray):ltP x y=true ↔ ltS x.1 y.1=true∨(x.1=y.1∧ltS x.2 y.2=true):=by simp [ltP]
instance : KeyO (ByteArray × ByteArray) where
 lt:=ltP
 trans:=by
  intro x y z h1 h2
  rw [ltP_iff] at *
  rcases h1 with h1 | ⟨e1,h1⟩ <;> rcases h2 with h2 | ⟨e2,h2⟩
  ·exact .inl (ltS_trans h1 h2)
  ·exact .inl (by rw [←e2];exact h1)
  ·exact .inl (by rw [e1];exact h2)
  ·exact .inr ⟨e1.trans e2,ltS_trans h1 h2⟩
 irr:=by intro x;simp [ltP,ltS_irr]
 total:=by
  intro x y h hne
  rw [ltP_iff]
  simp only [ltP,Bool.or_eq_false_iff,Bool.and_eq_false_iff,decide_eq_false_iff_not] at h
  by_cases e:x.1=y.1
  ·refine .inr ⟨e.symm,ltS_total ?_ (fun e2=>hne (Prod.ext e e2))⟩
   rcases h.2 with h2 | h2
   ·exact absurd e h2
   ·exact h2
  ·exact .inl (ltS_total h.1 e)
section
variable {α κ:Type} [KeyO κ] (key:α→κ)
def placeK:List α→κ→Nat
 | [],_=>0
 | a::L,c=>if KeyO.lt (key a) c=true then placeK L c+1 else 0
def insK (L:List α) (x:α):List α:=L.take (placeK key L (key x))++x::L.drop (placeK key L (key x))
def riseK:List α→Bool
 | a::b::L=>KeyO.lt (key a) (key b) && riseK (b::L)
 | _=>true
variable {key}
theorem placeK_le (L:List α) (c:κ):placeK key L c≤L.length:=by
 induction L with
 | nil=>exact Nat.le_refl _
 | cons a L ih=>simp only [placeK];split <;> simp;omega
theorem insK_length (L:List α) (x:α):(insK key L x).length=L.length+1:=by
 have:=placeK_le (key:=key) L (key x)
 simp [insK];omega
theorem insK_cons (a x:α) (L:List α):insK key (a::L) x=if KeyO.lt (key a) (key x)=true then a::insK key L x else x::a::L:=by
 unfold insK
 simp only [placeK]
 split <;> simp
theorem mem_ins {L:List α} {x y:α}:y∈insK key L x ↔ y=x∨y∈L:=by
 unfold insK
 rw [List.mem_append,List.mem_cons]
 constructor
 ·rintro (h | h | h)
  ·exact .inr (List.mem_of_mem_take h)
  ·exact .inl h
  ·exact .inr (List.mem_of_mem_drop h)
 ·rintro (h | h)
  ·exact .inr (.inl h)
  ·rw [←List.take_append_drop (placeK key L (key x)) L,List.mem_append] at h
   rcases h with h | h
   ·exact .inl h
   ·exact .inr (.inr h)
theorem filter_ins_no {p:α→Bool} (L:List α) {x:α} (h:p x=false):(insK key L x).filter p=L.filter p:=by
 unfold insK
 rw [List.filter_append,List.filter_cons,h]
 simp only [Bool.false_eq_true,if_false]
 rw [←List.filter_append,List.take_append_drop]
theorem filter_ins_length {p:α→Bool} (L:List α) {x:α} (h:p x=true):((insK key L x).filter p).length=(L.filter p).length+1:=by
 have e:(L.filter p).length=((L.take (placeK key L (key x))).filter p).length+((L.drop (placeK key L (key x))).filter p).length:=by
  rw [←List.length_append,←List.filter_append,List.take_append_drop]
 unfold insK
 rw [List.filter_append,List.filter_cons,h]
 simp only [if_true,List.length_append,List.length_cons]
 omega
theorem riseK_tail {a:α} {L:List α} (h:riseK key (a::L)=true):riseK key L=true:=by
 cases L with
 | nil=>rfl
 | cons b L=>simp only [riseK,Bool.and_eq_true] at h;exact h.2
theorem riseK_head {a:α} {L:List α} (h:riseK key (a::L)=true):∀ y∈L,KeyO.lt (key a) (key y)=true:=by
 induction L generalizing a with
 | nil=>intro y hy;cases hy
 | cons b L ih =>
   simp only [riseK,Bool.and_eq_true] at h
   intro y hy
   rcases List.mem_cons.1 hy with rfl | hy
   ·exact h.1
   ·exact KeyO.trans h.1 (ih h.2 y hy)
theorem riseK_cons {a:α} {L:List α} (h1:∀ y∈L,KeyO.lt (key a) (key y)=true) (h2:riseK key L=true):riseK key (a::L)=true:=by
 cases L with
 | nil=>rfl
 | cons b L=>simp only [riseK,Bool.and_eq_true];exact ⟨h1 b List.mem_cons_self,h2⟩
theorem riseK_at {L:List α} (h:riseK key L=true) {i j:Nat} {x y:α} (hij:i < j) (hx:L[i]?=some x) (hy:L[j]?=some y):KeyO.lt (key x) (key y)=true:=by
 induction L generalizing i j with
 | nil=>simp at hx
 | cons a L ih =>
   cases j with
   | zero=>omega
   | succ j =>
     cases i with
     | zero =>
       simp at hx hy
       subst hx
       exact riseK_head h y (List.mem_of_getElem? hy)
     | succ i =>
       simp at hx hy
       exact ih (riseK_tail h) (by omega) hx hy
theorem riseK_uniq {L:List α} (h:riseK key L=true) {x y:α} (hx:x∈L) (hy:y∈L) (e:key x=key y):x=y:=by
 obtain ⟨i,hi,hix⟩:=List.getElem_of_mem hx
 obtain ⟨j,hj,hjy⟩:=List.getElem_of_mem hy
 have h1:L[i]?=some x:=by rw [List.getElem?_eq_getElem hi,hix]
 have h2:L[j]?=some y:=by rw [List.getElem?_eq_getElem hj,hjy]
 rcases Nat.lt_trichotomy i j with hl | hl | hl
 ·have:=riseK_at h hl h1 h2;rw [e,KeyO.irr] at this;cases this
 ·subst hl;rw [h1] at h2;exact Option.some.inj h2
 ·have:=riseK_at h hl h2 h1;rw [e,KeyO.irr] at this;cases this
theorem placeK_at {L:List α} {c:κ} {i:Nat} (hi:i≤L.length) (hb:∀ (j:Nat) (y:α),j < i→L[j]?=some y→KeyO.lt (key y) c=true) (hx:∀ y,L[i]?=some y→KeyO.lt (key y) c=false):placeK key L c=i:=by
 induction L generalizing i with
 | nil=>simp at hi;subst hi;rfl
 | cons a L ih =>
   cases i with
   | zero=>simp only [placeK,hx a rfl,Bool.false_eq_true,if_false]
   | succ i =>
     simp only [placeK,hb 0 a (by omega) rfl,if_true]
     rw [ih (i:=i) (by simpa using hi) (fun j y hj hy=>hb (j+1) y (by omega) (by simpa using hy)) (fun y hy=>hx y (by simpa using hy))]
theorem placeK_below {L:List α} {c:κ}:∀ (j:Nat) (y:α),j < placeK key L c→L[j]?=some y→KeyO.lt (key y) c=true:=by
 induction L with
 | nil=>intro j y _ h;simp at h
 | cons a L ih =>
   intro j y hj hy
   simp only [placeK] at hj
   split at hj
   ·cases j with
    | zero=>simp at hy;subst hy;assumption
    | succ j=>exact ih j y (by omega) (by simpa using hy)
   ·omega
theorem placeK_there {L:List α} {c:κ} {y:α} (h:L[placeK key L c]?=some y):KeyO.lt (key y) c=false:=by
 induction L with
 | nil=>simp at h
 | cons a L ih =>
   simp only [placeK] at h
   split at h
   ·exact ih (by simpa using h)
   ·simp at h;subst h;simp_all
theorem ins_perm (L:List α) (x:α):(insK key L x).Perm (x::L):=by
 unfold insK
 refine (List.perm_middle).trans ?_
 rw [List.take_append_drop]
end
section
variable {α κ:Type} [DecidableEq κ] (key:α→κ)
def findK:List α→κ→Option α
 | [],_=>none
 | a::L,c=>if key a=c then some a else findK L c
variable {key}
theorem findK_mem {L:List α} {c:κ} {x:α} (h:findK key L c=some x):key x=c∧x∈L:=by
 induction L with
 | nil=>cases h
 | cons a L ih =>
   simp only [findK] at h
   split at h
   ·cases h;exact ⟨by assumption,List.mem_cons_self⟩
   ·exact ⟨(ih h).1,List.mem_cons_of_mem _ (ih h).2⟩
theorem findK_no {L:List α} {c:κ} (h:findK key L c=none):∀ x∈L,key x≠c:=by
 induction L with
 | nil=>intro x hx;cases hx
 | cons a L ih =>
   simp only [findK] at h
   split at h
   ·cases h
   ·intro x hx
    rcases List.mem_cons.1 hx with rfl | hx
    ·assumption
    ·exact ih h x hx
theorem findK_none {L:List α} {c:κ} (h:∀ x∈L,key x≠c):findK key L c=none:=by
 cases hf:findK key L c with
 | none=>rfl
 | some x=>exact absurd (findK_mem hf).1 (h x (findK_mem hf).2)
end
section
variable {α κ:Type} [DecidableEq κ] [KeyO κ] {key:α→κ}
theorem findK_ins (L:List α) (x:α) (c:κ) (h:findK key L (key x)=none):findK key (insK key L x) c=if key x=c then some x else findK key L c:=by
 induction L with
 | nil=>simp [insK,placeK,findK]
 | cons a L ih =>
   simp only [findK] at h
   split at h
   ·cases h
   ·rename_i hne
    rw [insK_cons]
    split
    ·simp only [findK]
     rw [ih h]
     by_cases h1:key a=c
     ·have:key x≠c:=fun e=>hne (by rw [h1,e])
      simp [h1,this]
     ·simp [h1]
    ·simp [findK]
theorem riseK_ins (L:List α) (x:α) (hr:riseK key L=true) (h:findK key L (key x)=none):riseK key (insK key L x)=true:=by
 induction L with
 | nil=>rfl
 | cons a L ih =>
   have hne:key a≠key x:=findK_no h a List.mem_cons_self
   rw [insK_cons]
   split
   ·rename_i hg
    refine riseK_cons (fun y hy=>?_) (ih (riseK_tail hr) (findK_none fun y hy=>findK_no h y (List.mem_cons_of_mem _ hy)))
    rcases mem_ins.1 hy with rfl | hy
    ·exact hg
    ·exact riseK_head hr y hy
   ·rename_i hg
    have hlt:KeyO.lt (key x) (key a)=true:=KeyO.total (by simpa using hg) hne
    simp only [riseK,Bool.and_eq_true]
    exact ⟨hlt,hr⟩
theorem findK_of_mem {L:List α} (h:riseK key L=true) {x:α} (hx:x∈L):findK key L (key x)=some x:=by
 cases hf:findK key L (key x) with
 | none=>exact absurd rfl (findK_no hf x hx)
 | some y=>rw [riseK_uniq h (findK_mem hf).2 hx (findK_mem hf).1]
def isK (key:α→κ) (L:List α) (c:κ):Bool:=match L[placeK key L c]? with
 | some x=>decide (key x=c)
 | none=>false
theorem isK_find {L:List α} (h:riseK key L=true) (c:κ):isK key L c=(findK key L c).isSome∧(isK key L c=true→L[placeK key L c]?=findK key L c):=by
 unfold isK
 cases hp:L[placeK key L c]? with
 | none =>
   have hlen:L.length≤placeK key L c:=List.getElem?_eq_none_iff.1 hp
   have hf:findK key L c=none:=findK_none fun x hx e=>by
    obtain ⟨i,hi,hix⟩:=List.getElem_of_mem hx
    have:=placeK_below (key:=key) (L:=L) (c:=c) i x (by omega) (by rw [List.getElem?_eq_getElem hi,hix])
    rw [e,KeyO.irr] at this;cases this
   rw [hf];exact ⟨rfl,fun h=>by cases h⟩
 | some x =>
   simp only
   by_cases e:key x=c
   ·have hm:=List.mem_of_getElem? hp
    have hf:=findK_of_mem h hm
    rw [e] at hf
    rw [hf];exact ⟨by simp [e],fun _=>rfl⟩
   ·have hf:findK key L c=none:=findK_none fun y hy ey=>by
     obtain ⟨i,hi,hiy⟩:=List.getElem_of_mem hy
     have h1:L[i]?=some y:=by rw [List.getElem?_eq_getElem hi,hiy]
     rcases Nat.lt_trichotomy i (placeK key L c) with hl | hl | hl
     ·have:=placeK_below (key:=key) (L:=L) (c:=c) i y hl h1;rw [ey,KeyO.irr] at this;cases this
     ·rw [hl,hp] at h1;cases h1;exact e ey
     ·have h2:=riseK_at h hl hp h1
      rw [ey,placeK_there hp] at h2;cases h2
    rw [hf];exact ⟨by simp [e],fun h=>by simp [e] at h⟩
end
end Go.Proofs.YtdegffffcbhjbaaGreatDoor.G
end
section
namespace Go.Proofs.YtdegffffcbhjbaaGreatDoor
open Go.RowKit
section
variable {α:Type} (key:α→ByteArray)
def findK:List α→ByteArray→Option α
 | [],_=>none
 | a::L,c=>if key a=c then some a else findK L c
def placeK:List α→ByteArray→Nat
 | [],_=>0
 | a::L,c=>if ltS (key a) c=true then placeK L c+1 else 0
def insK (L:List α) (x:α):List α:=L.take (placeK key L (key x))++x::L.drop (placeK key L (key x))
def riseK:List α→Bool
 | a::b::L=>ltS (key a) (key b) && riseK (b::L)
 | _=>true
variable {key}
theorem placeK_le (L:List α) (c:ByteArray):placeK key L c≤L.length:=by
 induction L with
 | nil=>exact Nat.le_refl _
 | cons a L ih=>simp only [placeK];split <;> simp;omega
theorem insK_length (L:List α) (x:α):(insK key L x).length=L.length+1:=by
 have:=placeK_le (key:=key) L (key x)
 simp [insK];omega
theorem insK_cons (a x:α) (L:List α):insK key (a::L) x=if ltS (key a) (key x)=true then a::insK key L x else x::a::L:=by
 unfold insK
 simp only [placeK]
 split <;> simp
theorem mem_ins {L:List α} {x y:α}:y∈insK key L x ↔ y=x∨y∈L:=by
 unfold insK
 rw [List.mem_append,List.mem_cons]
 constructor
 ·rintro (h | h | h)
  ·exact .inr (List.mem_of_mem_take h)
  ·exact .inl h
  ·exact .inr (List.mem_of_mem_drop h)
 ·rintro (h | h)
  ·exact .inr (.inl h)
  ·rw [←List.take_append_drop (placeK key L (key x)) L,List.mem_append] at h
   rcases h with h | h
   ·exact .inl h
   ·exact .inr (.inr h)
theorem filter_ins_no {p:α→Bool} (L:List α) {x:α} (h:p x=false):(insK key L x).filter p=L.filter p:=by
 unfold insK
 rw [List.filter_append,List.filter_cons,h]
 simp only [Bool.false_eq_true,if_false]
 rw [←List.filter_append,List.take_append_drop]
theorem filter_ins_length {p:α→Bool} (L:List α) {x:α} (h:p x=true):((insK key L x).filter p).length=(L.filter p).length+1:=by
 have e:(L.filter p).length=((L.take (placeK key L (key x))).filter p).length+((L.drop (placeK key L (key x))).filter p).length:=by
  rw [←List.length_append,←List.filter_append,List.take_append_drop]
 unfold insK
 rw [List.filter_append,List.filter_cons,h]
 simp only [if_true,List.length_append,List.length_cons]
 omega
theorem findK_mem {L:List α} {c:ByteArray} {x:α} (h:findK key L c=some x):key x=c∧x∈L:=by
 induction L with
 | nil=>cases h
 | cons a L ih =>
   simp only [findK] at h
   split at h
   ·cases h;exact ⟨by assumption,List.mem_cons_self⟩
   ·exact ⟨(ih h).1,List.mem_cons_of_mem _ (ih h).2⟩
theorem findK_no {L:List α} {c:ByteArray} (h:findK key L c=none):∀ x∈L,key x≠c:=by
 induction L with
 | nil=>intro x hx;cases hx
 | cons a L ih =>
   simp only [findK] at h
   split at h
   ·cases h
   ·intro x hx
    rcases List.mem_cons.1 hx with rfl | hx
    ·assumption
    ·exact ih h x hx
theorem findK_none {L:List α} {c:ByteArray} (h:∀ x∈L,key x≠c):findK key L c=none:=by
 cases hf:findK key L c with
 | none=>rfl
 | some x=>exact absurd (findK_mem hf).1 (h x (findK_mem hf).2)
theorem findK_ins (L:List α) (x:α) (c:ByteArray) (h:findK key L (key x)=none):findK key (insK key L x) c=if key x=c then some x else findK key L c:=by
 induction L with
 | nil=>simp [insK,placeK,findK]
 | cons a L ih =>
   simp only [findK] at h
   split at h
   ·cases h
   ·rename_i hne
    rw [insK_cons]
    split
    ·simp only [findK]
     rw [ih h]
     by_cases h1:key a=c
     ·have:key x≠c:=fun e=>hne (by rw [h1,e])
      simp [h1,this]
     ·simp [h1]
    ·simp [findK]
theorem riseK_tail {a:α} {L:List α} (h:riseK key (a::L)=true):riseK key L=true:=by
 cases L with
 | nil=>rfl
 | cons b L=>simp only [riseK,Bool.and_eq_true] at h;exact h.2
theorem riseK_head {a:α} {L:List α} (h:riseK key (a::L)=true):∀ y∈L,ltS (key a) (key y)=true:=by
 induction L generalizing a with
 | nil=>intro y hy;cases hy
 | cons b L ih =>
   simp only [riseK,Bool.and_eq_true] at h
   intro y hy
   rcases List.mem_cons.1 hy with rfl | hy
   ·exact h.1
   ·exact ltS_trans h.1 (ih h.2 y hy)
theorem riseK_cons {a:α} {L:List α} (h1:∀ y∈L,ltS (key a) (key y)=true) (h2:riseK key L=true):riseK key (a::L)=true:=by
 cases L with
 | nil=>rfl
 | cons b L=>simp only [riseK,Bool.and_eq_true];exact ⟨h1 b List.mem_cons_self,h2⟩
theorem riseK_ins (L:List α) (x:α) (hr:riseK key L=true) (h:findK key L (key x)=none):riseK key (insK key L x)=true:=by
 induction L with
 | nil=>rfl
 | cons a L ih =>
   have hne:key a≠key x:=findK_no h a List.mem_cons_self
   rw [insK_cons]
   split
   ·rename_i hg
    refine riseK_cons (fun y hy=>?_) (ih (riseK_tail hr) (findK_none fun y hy=>findK_no h y (List.mem_cons_of_mem _ hy)))
    rcases mem_ins.1 hy with rfl | hy
    ·exact hg
    ·exact riseK_head hr y hy
   ·rename_i hg
    have hlt:ltS (key x) (key a)=true:=ltS_total (by simpa using hg) hne
    simp only [riseK,Bool.and_eq_true]
    exact ⟨hlt,hr⟩
theorem riseK_at {L:List α} (h:riseK key L=true) {i j:Nat} {x y:α} (hij:i < j) (hx:L[i]?=some x) (hy:L[j]?=some y):ltS (key x) (key y)=true:=by
 induction L generalizing i j with
 | nil=>simp at hx
 | cons a L ih =>
   cases j with
   | zero=>omega
   | succ j =>
     cases i with
     | zero =>
       simp at hx hy
       subst hx
       exact riseK_head h y (List.mem_of_getElem? hy)
     | succ i =>
       simp at hx hy
       exact ih (riseK_tail h) (by omega) hx hy
theorem riseK_uniq {L:List α} (h:riseK key L=true) {x y:α} (hx:x∈L) (hy:y∈L) (e:key x=key y):x=y:=by
 obtain ⟨i,hi,hix⟩:=List.getElem_of_mem hx
 obtain ⟨j,hj,hjy⟩:=List.getElem_of_mem hy
 have h1:L[i]?=some x:=by rw [List.getElem?_eq_getElem hi,hix]
 have h2:L[j]?=some y:=by rw [List.getElem?_eq_getElem hj,hjy]
 rcases Nat.lt_trichotomy i j with hl | hl | hl
 ·have:=riseK_at h hl h1 h2;rw [e,ltS_irr] at this;cases this
 ·subst hl;rw [h1] at h2;exact Option.some.inj h2
 ·have:=riseK_at h hl h2 h1;rw [e,ltS_irr] at this;cases this
theorem findK_of_mem {L:List α} (h:riseK key L=true) {x:α} (hx:x∈L):findK key L (key x)=some x:=by
 cases hf:findK key L (key x) with
 | none=>exact absurd rfl (findK_no hf x hx)
 | some y=>rw [riseK_uniq h (findK_mem hf).2 hx (findK_mem hf).1]
theorem placeK_at {L:List α} {c:ByteArray} {i:Nat} (hi:i≤L.length) (hb:∀ (j:Nat) (y:α),j < i→L[j]?=some y→ltS (key y) c=true) (hx:∀ y,L[i]?=some y→ltS (key y) c=false):placeK key L c=i:=by
 induction L generalizing i with
 | nil=>simp at hi;subst hi;rfl
 | cons a L ih =>
   cases i with
   | zero=>simp only [placeK,hx a rfl,Bool.false_eq_true,if_false]
   | succ i =>
     simp only [placeK,hb 0 a (by omega) rfl,if_true]
     rw [ih (i:=i) (by simpa using hi) (fun j y hj hy=>hb (j+1) y (by omega) (by simpa using hy)) (fun y hy=>hx y (by simpa using hy))]
theorem placeK_below {L:List α} {c:ByteArray}:∀ (j:Nat) (y:α),j < placeK key L c→L[j]?=some y→ltS (key y) c=true:=by
 induction L with
 | nil=>intro j y _ h;simp at h
 | cons a L ih =>
   intro j y hj hy
   simp only [placeK] at hj
   split at hj
   ·cases j with
    | zero=>simp at hy;subst hy;assumption
    | succ j=>exact ih j y (by omega) (by simpa using hy)
   ·omega
theorem placeK_there {L:List α} {c:ByteArray} {y:α} (h:L[placeK key L c]?=some y):ltS (key y) c=false:=by
 induction L with
 | nil=>simp at h
 | cons a L ih =>
   simp only [placeK] at h
   split at h
   ·exact ih (by simpa using h)
   ·simp at h;subst h;simp_all
def isK (key:α→ByteArray) (L:List α) (c:ByteArray):Bool:=match L[placeK key L c]? with
 | some x=>decide (key x=c)
 | none=>false
theorem isK_find {L:List α} (h:riseK key L=true) (c:ByteArray):isK key L c=(findK key L c).isSome∧(isK key L c=true→L[placeK key L c]?=findK key L c):=by
 unfold isK
 cases hp:L[placeK key L c]? with
 | none =>
   have hlen:L.length≤placeK key L c:=List.getElem?_eq_none_iff.1 hp
   have hf:findK key L c=none:=findK_none fun x hx e=>by
    obtain ⟨i,hi,hix⟩:=List.getElem_of_mem hx
    have:=placeK_below (key:=key) (L:=L) (c:=c) i x (by omega) (by rw [List.getElem?_eq_getElem hi,hix])
    rw [e,ltS_irr] at this;cases this
   rw [hf];exact ⟨rfl,fun h=>by cases h⟩
 | some x =>
   simp only
   by_cases e:key x=c
   ·have hm:=List.mem_of_getElem? hp
    have hf:=findK_of_mem h hm
    rw [e] at hf
    rw [hf];exact ⟨by simp [e],fun _=>rfl⟩
   ·have hf:findK key L c=none:=findK_none fun y hy ey=>by
     obtain ⟨i,hi,hiy⟩:=List.getElem_of_mem hy
     have h1:L[i]?=some y:=by rw [List.getElem?_eq_getElem hi,hiy]
     rcases Nat.lt_trichotomy i (placeK key L c) with hl | hl | hl
     ·have:=placeK_below (key:=key) (L:=L) (c:=c) i y hl h1;rw [ey,ltS_irr] at this;cases this
     ·rw [hl,hp] at h1;cases h1;exact e ey
     ·have h2:=riseK_at h hl hp h1
      rw [ey,placeK_there hp] at h2;cases h2
    rw [hf];exact ⟨by simp [e],fun h=>by simp [e] at h⟩
end
end Go.Proofs.YtdegffffcbhjbaaGreatDoor
end
section
namespace Go.Proofs.YtdegffffcbhjbaaGreatDoor
open Go.RowKit
theorem below_grown {B:Nat} {w wr w1:World} {e:TypeId} {size n:Nat} {v:Value} {xs:List Value} (hnx:Below B w wr) (hB:B≤wr.heap.size) (hown:wr.ownsRow B e size v n xs) (hg:wr.grownBy w1 v.ownBlock):Below B w w1 :=
 hnx.grown hg hB (fun j hj=>(hown.lt j hj).1)
structure RowIs (k:IntKind) (w:World) (a:Option Addr) (n:Nat) (l:List Int):Prop where
 len:l.length=n
 max:n≤maxLen
 cell:∀ i,i < n→∃ b o,a=some ⟨b,o,none⟩∧w.cell? ⟨b,o+i,none⟩=some (.int k (l.getD i 0))
theorem getD_at (l:List Int) (k:Nat) (hk:k < l.length):l.getD k 0=l[k]:=by simp [List.getD,hk]
theorem RowIs.keep {k:IntKind} {w w':World} {B:Nat} {a:Option Addr} {n:Nat} {l:List Int} (h:RowIs k w a n l) (hb:Below B w w') (hB:w.heap.size≤B):RowIs k w' a n l :=
 ⟨h.len,h.max,fun i hi=>by
  obtain ⟨b,o,e,hc⟩:=h.cell i hi
  exact ⟨b,o,e,(hb.cell (Nat.lt_of_lt_of_le (World.block_lt_of_cell? w _ hc) hB)).trans hc⟩⟩
section
variable {P:Program} {w:World} {ops:Array Oper} {rest:List Oper} {o:Oper} {a:Act} {Q:Exit→Act→World→Prop}
end
end Go.Proofs.YtdegffffcbhjbaaGreatDoor
end
section
namespace Go.Proofs.YtdegffffcbhjbaaGreatDoor
open Go.RowKit
def StrsV (w:World) (v:Value) (ws:List ByteArray):Prop :=
 ∃ a c,v=.slice a ws.length c∧ws.length≤c∧ws.length≤maxLen∧∀ i x,ws[i]?=some x→∃ b o,a=some ⟨b,o,none⟩∧w.cell? ⟨b,o+i,none⟩=some (.string x)
def LinesV (w:World) (v:Value) (L:List (Int × List ByteArray)):Prop :=
 ∃ a c,v=.slice a L.length c∧L.length≤maxLen∧∀ i x,L[i]?=some x→∃ b o u,a=some ⟨b,o,none⟩∧w.cell? ⟨b,o+i * 2,none⟩=some (.int .i64 x.1)∧w.cell? ⟨b,o+i * 2+1,none⟩=some u∧StrsV w u x.2
theorem StrsV.nil (w:World):StrsV w (.slice none 0 0) []:=⟨none,0,rfl,by simp,by simp,fun i x h=>by simp at h⟩
theorem LinesV.nil (w:World):LinesV w (.slice none 0 0) []:=⟨none,0,rfl,by simp,fun i x h=>by simp at h⟩
theorem StrsV.keep {w w':World} {v:Value} {ws:List ByteArray} (h:StrsV w v ws) (hb:Below w.heap.size w w'):StrsV w' v ws:=by
 obtain ⟨a,c,e,h1,h2,hc⟩:=h
 exact ⟨a,c,e,h1,h2,fun i x hx=>by
  obtain ⟨b,o,ea,hx'⟩:=hc i x hx
  exact ⟨b,o,ea,(hb.cell (World.block_lt_of_cell? w _ hx')).trans hx'⟩⟩
theorem add_off (b o i:Nat):(⟨b,o,none⟩:Addr).add i=⟨b,o+i,none⟩:=by
 by_cases h0:i=0
 ·subst h0;simp [Addr.add]
 ·simp [Addr.add,h0]
def flatL (LV:List (Int × Value)):List Value:=LV.flatMap fun x=>[.int .i64 x.1,x.2]
theorem flatL_snoc (LV:List (Int × Value)) (n:Int) (u:Value):flatL (LV++[(n,u)])=flatL LV++[.int .i64 n,u]:=by simp [flatL]
theorem flatL_at:∀ (LV:List (Int × Value)) (i:Nat) (x:Int × Value),LV[i]?=some x→(flatL LV)[i * 2]?=some (.int .i64 x.1)∧(flatL LV)[i * 2+1]?=some x.2
 | [],i,x,h=>by simp at h
 | y::r,0,x,h=>by
   simp at h
   subst h
   exact ⟨rfl,rfl⟩
 | y::r,i+1,x,h=>by
   have ih:=flatL_at r i x (by simpa using h)
   have e:flatL (y::r)=.int .i64 y.1::y.2::flatL r:=rfl
   rw [e,show (i+1) * 2=i * 2+1+1 by omega,show i * 2+1+1+1=(i * 2+1)+1+1 by omega]
   simpa using ih
theorem row_apart {W:World} {B B':Nat} {e e':TypeId} {s s':Nat} {v v':Value} {n n':Nat} {xs xs':List Value} (h:W.ownsRow B e s v n xs) (h':W.ownsRow B' e' s' v' n' xs') (hne:e≠e'):v'.ownBlock=none∨v'.ownBlock≠v.ownBlock:=by
 rcases h'.2 with ⟨rfl,_⟩ | ⟨g',cap',cur',rfl,_,hg',_⟩
 ·exact .inl rfl
 ·refine .inr fun e0=>?_
  rcases h.2 with ⟨rfl,_⟩ | ⟨g,cap,cur,rfl,_,hg,_⟩
  ·simp [Value.ownBlock] at e0
  ·obtain rfl:g'=g:=by simpa [Value.ownBlock] using e0
   rw [hg] at hg'
   simp at hg'
   exact hne hg'.2
theorem row_uncells {X Y:World} {B:Nat} {e:TypeId} {s:Nat} {v:Value} {n:Nat} {xs:List Value} {row:Option Nat} (h:X.ownsRow B e s v n xs) (hg:X.grownBy Y row) (hr:∀ r,row=some r→∃ o:Obj,X.heap[r]?=some o∧o.isCells=false):Y.ownsRow B e s v n xs:=by
 refine h.kept hg ?_
 rcases h.2 with ⟨rfl,_⟩ | ⟨g,cap,cur,rfl,_,hgb,_⟩
 ·exact .inl rfl
 ·refine .inr fun e'=>?_
  obtain ⟨o,ho,hc⟩:=hr g (by simpa [Value.ownBlock] using e'.symm)
  rw [hgb] at ho;cases ho;cases hc
theorem row_below {X Y:World} {B:Nat} {e:TypeId} {s:Nat} {v:Value} {n:Nat} {xs:List Value} (h:X.ownsRow B e s v n xs) (hb:Below X.heap.size X Y):Y.ownsRow B e s v n xs :=
 h.kept (row:=none) ⟨hb.os,hb.tape,hb.output,hb.size,fun j hj _=>hb.block j hj⟩ (by
  cases v.ownBlock with
  | none=>exact .inl rfl
  | some g=>exact .inr (by simp))
theorem row_base {X:World} {B B':Nat} {e:TypeId} {s:Nat} {v:Value} {n:Nat} {xs:List Value} (h:X.ownsRow B e s v n xs) (hB:B'≤B):X.ownsRow B' e s v n xs:=by
 refine ⟨h.1,?_⟩
 rcases h.2 with h0 | ⟨g,cap,cur,hv,hb,rest⟩
 ·exact .inl h0
 ·exact .inr ⟨g,cap,cur,hv,by omega,rest⟩
theorem boxed_below {X Y:World} {B:Nat} {t:TypeId} {v:Value} (h:Boxed X B t v) (hb:Below X.heap.size X Y):Boxed Y B t v:=(hb.block B h.lt).trans h
theorem keepsFrom_below {X Y:World} (B:Nat) (hb:Below X.heap.size X Y):KeepsFrom B X Y :=
 ⟨hb.size,fun k _ _ h _=>(hb.block k (Array.getElem?_eq_some_iff.1 h).1).trans h⟩
def WordsOwn (W:World) (B:Nat) (e:TypeId) (LV:List (Int × Value)) (L:List (Int × List ByteArray)):Prop :=
 LV.length=L.length∧∀ (i:Nat) (x:Int × Value) (y:Int × List ByteArray),LV[i]?=some x→L[i]?=some y→x.1=y.1∧W.ownsRow B e 1 x.2 y.2.length (y.2.map Value.string)
theorem WordsOwn.mono {W W':World} {B:Nat} {e:TypeId} {LV:List (Int × Value)} {L:List (Int × List ByteArray)} (h:WordsOwn W B e LV L) (hk:∀ (u:Value) (n:Nat) (xs:List Value),W.ownsRow B e 1 u n xs→W'.ownsRow B e 1 u n xs):WordsOwn W' B e LV L :=
 ⟨h.1,fun i x y hx hy=>⟨(h.2 i x y hx hy).1,hk _ _ _ (h.2 i x y hx hy).2⟩⟩
theorem WordsOwn.nil (W:World) (B:Nat) (e:TypeId):WordsOwn W B e [] []:=⟨rfl,fun i x y h=>by simp at h⟩
theorem WordsOwn.snoc {W:World} {B:Nat} {e:TypeId} {LV:List (Int × Value)} {L:List (Int × List ByteArray)} (h:WordsOwn W B e LV L) (n:Int) (u:Value) (ws:List ByteArray) (hu:W.ownsRow B e 1 u ws.length (ws.map Value.string)):WordsOwn W B e (LV++[(n,u)]) (L++[(n,ws)]):=by
 refine ⟨by simp [h.1],fun i x y hx hy=>?_⟩
 by_cases hi:i < LV.length
 ·rw [List.getElem?_append_left hi] at hx
  rw [List.getElem?_append_left (by rw [←h.1];exact hi)] at hy
  exact h.2 i x y hx hy
 ·have hi':i=LV.length:=by
   have:=(List.getElem?_eq_some_iff.1 hx).1
   simp at this
   omega
  subst hi'
  simp at hx
  rw [h.1] at hy
  simp at hy
  subst hx hy
  exact ⟨rfl,hu⟩
theorem strs_of_own {W:World} {B:Nat} {e:TypeId} {u:Value} {ws:List ByteArray} (h:W.ownsRow B e 1 u ws.length (ws.map Value.string)):StrsV W u ws:=by
 have hw:=h
 rcases h.2 with ⟨rfl,hn⟩ | ⟨g,cap,cur,rfl,_,_,hnc,hcm,_⟩
 ·have:ws=[]:=List.eq_nil_of_length_eq_zero hn
  subst this
  exact StrsV.nil W
 ·refine ⟨_,cap,rfl,hnc,by omega,fun i x hx=>⟨g,0,rfl,?_⟩⟩
  have:=hw.cells (g:=g) rfl i (.string x) (by simp [hx])
  rwa [add_off] at this
def WordsIn (W:World) (LV:List (Int × Value)) (L:List (Int × List ByteArray)):Prop :=
 LV.length=L.length∧∀ (i:Nat) (x:Int × Value) (y:Int × List ByteArray),LV[i]?=some x→L[i]?=some y→x.1=y.1∧StrsV W x.2 y.2
theorem lines_of_in {W:World} {B:Nat} {e:TypeId} {v:Value} {LV:List (Int × Value)} {L:List (Int × List ByteArray)} (h:W.ownsRow B e 2 v LV.length (flatL LV)) (hw:WordsIn W LV L):LinesV W v L:=by
 have h0:=h
 rcases h.2 with ⟨rfl,hn⟩ | ⟨g,cap,cur,rfl,_,_,hnc,hcm,_⟩
 ·have:L=[]:=List.eq_nil_of_length_eq_zero (by rw [←hw.1];exact hn)
  subst this
  exact LinesV.nil W
 ·rw [hw.1]
  refine ⟨_,cap,rfl,by rw [←hw.1];omega,fun i y hy=>?_⟩
  have hi:i < LV.length:=by rw [hw.1];exact (List.getElem?_eq_some_iff.1 hy).1
  have hx:LV[i]?=some LV[i]:=List.getElem?_eq_getElem hi
  obtain ⟨e1,e2⟩:=hw.2 i _ y hx hy
  obtain ⟨f1,f2⟩:=flatL_at LV i _ hx
  have c1:=h0.cells (g:=g) rfl _ _ f1
  have c2:=h0.cells (g:=g) rfl _ _ f2
  rw [add_off] at c1 c2
  exact ⟨g,0,_,rfl,by rw [←e1];exact c1,by rw [Nat.add_assoc];exact c2,e2⟩
theorem WordsOwn.isIn {W:World} {B:Nat} {e:TypeId} {LV:List (Int × Value)} {L:List (Int × List ByteArray)} (h:WordsOwn W B e LV L):WordsIn W LV L :=
 ⟨h.1,fun i x y hx hy=>⟨(h.2 i x y hx hy).1,strs_of_own (h.2 i x y hx hy).2⟩⟩
theorem take_at {α:Type} (L:List α) (k:Nat) (h:k < L.length):L.take (k+1)=L.take k++[L[k]]:=List.take_succ_eq_append_getElem h
end Go.Proofs.YtdegffffcbhjbaaGreatDoor
end
section
namespace Go.Proofs.YtdegffffcbhjbaaGreatDoor
open Go.RowKit
structure Enc (α:Type) where
 cs:α→List Value
 k:Nat
 len:∀ a,(cs a).length=k
 pos:0 < k
 one:∀ a,∀ v∈cs a,v.oneCell'=true
section
variable {α:Type} {E:Enc α}
def ElAt (E:Enc α) (w:World) (b o:Nat) (a:α):Prop:=∀ (j:Nat) v,(E.cs a)[j]?=some v→w.cell? ⟨b,o+j,none⟩=some v
theorem ElAt.lt {w:World} {b o:Nat} {a:α} (h:ElAt E w b o a):b < w.heap.size:=by
 have h0:0 < (E.cs a).length:=by rw [E.len];exact E.pos
 exact World.block_lt_of_cell? w _ (h 0 _ (List.getElem?_eq_getElem h0))
theorem ElAt.keep {w w':World} {b o B:Nat} {a:α} (h:ElAt E w b o a) (hb:Below B w w') (hB:b < B):ElAt E w' b o a :=
 fun j v hj=>(hb.cell (p:=⟨b,_,none⟩) hB).trans (h j v hj)
def ElsV (E:Enc α) (w:World) (v:Value) (L:List α):Prop :=
 ∃ p c,v=.slice p L.length c∧L.length≤c∧c≤maxLen∧(p=none→c=0)∧∀ (i:Nat) (x:α),L[i]?=some x→∃ b o,p=some ⟨b,o,none⟩∧ElAt E w b (o+i * E.k) x
theorem ElsV.nil (w:World):ElsV E w (.slice none 0 0) []:=⟨none,0,rfl,by simp,by simp,fun _=>rfl,fun i x h=>by simp at h⟩
theorem ElsV.keep {w w':World} {v:Value} {L:List α} (h:ElsV E w v L) (hb:Below w.heap.size w w'):ElsV E w' v L:=by
 obtain ⟨a,c,e,h1,h2,h3,hc⟩:=h
 exact ⟨a,c,e,h1,h2,h3,fun i x hx=>by
  obtain ⟨b,o,ea,hx'⟩:=hc i x hx
  exact ⟨b,o,ea,hx'.keep hb hx'.lt⟩⟩
def flat (E:Enc α) (L:List α):List Value:=L.flatMap E.cs
theorem flat_cons (a:α) (L:List α):flat E (a::L)=E.cs a++flat E L:=rfl
theorem flat_one (a:α):flat E [a]=E.cs a:=by simp [flat]
theorem flat_append (L M:List α):flat E (L++M)=flat E L++flat E M:=by simp [flat]
theorem flat_length (L:List α):(flat E L).length=L.length * E.k:=by
 induction L with
 | nil=>simp [flat]
 | cons a L ih=>rw [flat_cons,List.length_append,ih,E.len,List.length_cons,Nat.succ_mul];omega
theorem flat_at:∀ (L:List α) (i:Nat) (x:α),L[i]?=some x→∀ (j:Nat) v,(E.cs x)[j]?=some v→(flat E L)[i * E.k+j]?=some v
 | [],i,x,h=>by simp at h
 | y::L,0,x,h=>by
   simp at h
   subst h
   intro j v hj
   have:j < (E.cs y).length:=(List.getElem?_eq_some_iff.1 hj).1
   rw [flat_cons,Nat.zero_mul,Nat.zero_add,List.getElem?_append_left this];exact hj
 | y::L,i+1,x,h=>fun j v hj=>by
   have ih:=flat_at L i x (by simpa using h) j v hj
   rw [flat_cons,show (i+1) * E.k+j=(E.cs y).length+(i * E.k+j) by rw [E.len,Nat.succ_mul];omega,List.getElem?_append_right (by omega)]
   simpa using ih
theorem flat_of {L:List α} {k:Nat} {v:Value} (h:(flat E L)[k]?=some v):∃ x,L[k / E.k]?=some x∧(E.cs x)[k % E.k]?=some v:=by
 have hk:k < L.length * E.k:=by rw [←flat_length];exact (List.getElem?_eq_some_iff.1 h).1
 have hi:k / E.k < L.length:=Nat.div_lt_of_lt_mul (by rw [Nat.mul_comm];exact hk)
 refine ⟨L[k / E.k],List.getElem?_eq_getElem hi,?_⟩
 have hj:k % E.k < (E.cs L[k / E.k]).length:=by rw [E.len];exact Nat.mod_lt _ E.pos
 have:=flat_at L (k / E.k) _ (List.getElem?_eq_getElem hi) (k % E.k) _ (List.getElem?_eq_getElem hj)
 rw [Nat.mul_comm,Nat.div_add_mod,h] at this
 rw [List.getElem?_eq_getElem hj,this]
theorem flat_ones (L:List α):∀ v∈flat E L,v.oneCell'=true:=by
 intro v hv
 obtain ⟨a,_,ha⟩:=List.mem_flatMap.1 hv
 exact E.one a v ha
theorem flat_take (L:List α) (k:Nat):flat E (L.take k)=(flat E L).take (k * E.k):=by
 induction L generalizing k with
 | nil=>simp [flat]
 | cons a L ih =>
   cases k with
   | zero=>simp [flat]
   | succ k =>
     rw [List.take_succ_cons,flat_cons,flat_cons,ih,List.take_append,E.len,show (k+1) * E.k - E.k=k * E.k by rw [Nat.succ_mul];omega,List.take_of_length_le (l:=E.cs a) (by rw [E.len,Nat.succ_mul];omega)]
theorem flat_drop (L:List α) (k:Nat):flat E (L.drop k)=(flat E L).drop (k * E.k):=by
 induction L generalizing k with
 | nil=>simp [flat]
 | cons a L ih =>
   cases k with
   | zero=>simp
   | succ k =>
     rw [List.drop_succ_cons,flat_cons,ih,List.drop_append,E.len,show (k+1) * E.k - E.k=k * E.k by rw [Nat.succ_mul];omega,List.drop_of_length_le (l:=E.cs a) (by rw [E.len,Nat.succ_mul];omega),List.nil_append]
theorem ElsV.cells {w:World} {p:Option Addr} {n c:Nat} {L:List α} (h:ElsV E w (.slice p n c) L) (hL:L≠[]):∃ b o,p=some ⟨b,o,none⟩∧b < w.heap.size∧∀ (j:Nat) v,(flat E L)[j]?=some v→w.cell? ⟨b,o+j,none⟩=some v:=by
 obtain ⟨p',c',e,_,_,_,hc⟩:=h
 cases e
 cases L with
 | nil=>exact absurd rfl hL
 | cons a L =>
   obtain ⟨b,o,rfl,h0⟩:=hc 0 a rfl
   refine ⟨b,o,rfl,h0.lt,fun j v hj=>?_⟩
   obtain ⟨x,hx,hv⟩:=flat_of hj
   obtain ⟨b',o',e',h1⟩:=hc _ x hx
   cases e'
   have:=h1 _ v hv
   rwa [Nat.add_assoc,Nat.mul_comm,Nat.div_add_mod] at this
theorem els_of_own {w:World} {B:Nat} {e:TypeId} {v:Value} {L:List α} (h:w.ownsRow B e E.k v L.length (flat E L)):ElsV E w v L:=by
 have h0:=h
 rcases h.2 with ⟨rfl,hn⟩ | ⟨g,cap,cur,rfl,_,_,hnc,hcm,_⟩
 ·have:L=[]:=List.eq_nil_of_length_eq_zero hn
  subst this
  exact ElsV.nil w
 ·refine ⟨_,cap,rfl,hnc,hcm,(fun e=>by cases e),fun i x hx=>⟨g,0,rfl,fun j u hj=>?_⟩⟩
  have:=h0.cells (g:=g) rfl _ _ (flat_at L i x hx j u hj)
  rwa [add_off,←Nat.add_assoc] at this
def BoxE (E:Enc α) (w:World) (b:Nat) (t:TypeId) (a:α):Prop:=w.heap[b]?=some (.cells (E.cs a).toArray t (0,0))
theorem BoxE.lt {w:World} {b:Nat} {t:TypeId} {a:α} (h:BoxE E w b t a):b < w.heap.size:=(Array.getElem?_eq_some_iff.1 h).1
theorem BoxE.keep {w w':World} {b B:Nat} {t:TypeId} {a:α} (h:BoxE E w b t a) (hb:Below B w w') (hB:b < B):BoxE E w' b t a:=(hb.block b hB).trans h
theorem BoxE.kept {w w':World} {b:Nat} {t:TypeId} {a:α} (h:BoxE E w b t a) (hb:Below w.heap.size w w'):BoxE E w' b t a:=h.keep hb h.lt
theorem BoxE.new (E:Enc α) (w:World) (a:α) (t:TypeId):BoxE E (w.alloc (.cells (E.cs a).toArray t)) w.heap.size t a:=heap_alloc_new w _
theorem BoxE.at0 {w:World} {b:Nat} {t:TypeId} {a:α} (h:BoxE E w b t a):ElAt E w b 0 a :=
 fun j v hj=>by rw [Nat.zero_add,cell_of_row _ b j _ t (0,0) h];simpa using hj
theorem grownBy_set (w:World) (g:Nat) (cs:Array Value):w.grownBy (w.setRow g cs) (some g) :=
 ⟨rfl,rfl,rfl,by simp [World.setRow],fun k _ hk=>setRow_other w g k cs (fun e=>hk (by rw [e]))⟩
theorem wpList_store_el {P:Program} {ops:Array Oper} {rest:List Oper} {o:Oper} {act:Act} {w:World} {Q:Exit→Act→World→Prop} (hgd:o.guard=none) (ty:TypeId) (x y:Operand) (ho:o.op=.store ty x y)
 (g:Nat) (z a:α) (t:TypeId) (hx:act.eval x=.pointer (some ⟨g,0,none⟩)) (hy:act.eval y=.agg (E.cs a).toArray) (hg:BoxE E w g t z) (hi:(P.info? ty).map (·.size)=some E.k)
 (h:∀ w',BoxE E w' g t a→w.grownBy w' (some g)→wpList P ops Q rest (act.put o.dst undef) w'):wpList P ops Q (o::rest) act w :=
 wpList_store_row hgd ty x y ho g _ hx hy t _ hg (by rw [hi];simp [E.len]) (by simp [E.len]) (by simp only [List.all_toArray,List.all_eq_true];exact fun v hv=>E.one a v hv) (h _ (setRow_heap w g _ _ t _ hg) (grownBy_set w g _))
theorem els_new (E:Enc α) (w:World) (L:List α) (t:TypeId) (hl:L.length≤maxLen):ElsV E (w.alloc (.cells (flat E L).toArray t)) (.slice (some ⟨w.heap.size,0,none⟩) L.length L.length) L :=
 ⟨_,_,rfl,Nat.le_refl _,hl,(fun e=>by cases e),fun i x hx=>⟨w.heap.size,0,rfl,fun j v hj=>by
  rw [cell_of_row _ w.heap.size _ _ t (0,0) (heap_alloc_new w _),Nat.zero_add]
  simpa using flat_at L i x hx j v hj⟩⟩
end
end Go.Proofs.YtdegffffcbhjbaaGreatDoor
end
section
namespace Go.Proofs.YtdegffffcbhjbaaGreatDoor.Fl
open Go.RowKit
structure Flow where
 code:ByteArray
 kind:Int
theorem Flow.ext' {a b:Flow} (h0:a.code=b.code) (h1:a.kind=b.kind):a=b:=by
 cases a;cases b;simp_all
instance : DecidableEq Flow:=fun a b =>
 if h:a.code=b.code∧a.kind=b.kind then isTrue (Flow.ext' h.1 h.2)
 else isFalse fun e=>h (by subst e;exact ⟨rfl,rfl⟩)
def zeroF:Flow:=⟨⟨#[]⟩,0⟩
abbrev encF:Enc Flow:=⟨fun f=>[.string f.code,.int .i64 f.kind],2,fun _=>rfl,by decide,fun _ v hv=>by simp at hv;rcases hv with rfl | rfl <;> rfl⟩
abbrev FlowsV (w:World) (v:Value) (L:List Flow):Prop:=ElsV encF w v L
abbrev aggL (f:Flow):Value:=.agg #[.string f.code,.int .i64 f.kind]
theorem two {w:World} {b o:Nat} {f:Flow} (h:ElAt encF w b o f):w.cell? ⟨b,o,none⟩=some (.string f.code)∧w.cell? ⟨b,o+1,none⟩=some (.int .i64 f.kind):=⟨h 0 _ rfl,h 1 _ rfl⟩
theorem box {w:World} {b:Nat} {t:TypeId} {f:Flow} (h:BoxE encF w b t f):w.cell? ⟨b,0,none⟩=some (.string f.code)∧w.cell? ⟨b,1,none⟩=some (.int .i64 f.kind):=⟨h.at0 0 _ rfl,h.at0 1 _ rfl⟩
def rightF (f:Flow):Bool:=nmB f.code && decide (0≤f.kind) && decide (f.kind < 5)
def tFlow:ByteArray:=⟨#[102,108,111,119]⟩
def tOpen:ByteArray:=⟨#[111,112,101,110]⟩
def tMove:ByteArray:=⟨#[109,111,118,101]⟩
def tFx:ByteArray:=⟨#[102,120]⟩
def tScope:ByteArray:=⟨#[115,99,111,112,101]⟩
def tClose:ByteArray:=⟨#[99,108,111,115,101]⟩
def kindW (n:Int):ByteArray:=if n=0 then tOpen else if n=1 then tMove else if n=2 then tFx else if n=3 then tScope else tClose
def kindO (s:ByteArray):Int:=if s=tOpen then 0 else if s=tMove then 1 else if s=tFx then 2 else if s=tScope then 3 else if s=tClose then 4 else -1
def wordsF (f:Flow):List ByteArray:=if rightF f=true then [tFlow,f.code,kindW f.kind] else []
def parseF:List ByteArray→Flow × Int
 | [x,c,k]=>if x=tFlow∧rightF ⟨c,kindO k⟩=true then (⟨c,kindO k⟩,0) else (zeroF,5)
 | _=>(zeroF,5)
theorem right_parts {f:Flow} (h:rightF f=true):nmB f.code=true∧(f.kind=0∨f.kind=1∨f.kind=2∨f.kind=3∨f.kind=4):=by
 unfold rightF at h
 simp only [Bool.and_eq_true,decide_eq_true_eq] at h
 exact ⟨h.1.1,by omega⟩
theorem kindO_kindW {n:Int} (h:n=0∨n=1∨n=2∨n=3∨n=4):kindO (kindW n)=n:=by
 rcases h with rfl | rfl | rfl | rfl | rfl <;> decide
theorem kindW_kindO {s:ByteArray} (h:0≤kindO s):kindW (kindO s)=s:=by
 unfold kindO at h ⊢
 by_cases h0:s=tOpen
 ·subst h0;rfl
 by_cases h1:s=tMove
 ·subst h1;rfl
 by_cases h2:s=tFx
 ·subst h2;rfl
 by_cases h3:s=tScope
 ·subst h3;rfl
 by_cases h4:s=tClose
 ·subst h4;rfl
 ·rw [if_neg h0,if_neg h1,if_neg h2,if_neg h3,if_neg h4] at h;omega
theorem words_of {f:Flow} (h:rightF f=true):wordsF f=[tFlow,f.code,kindW f.kind]:=by unfold wordsF;rw [if_pos h]
theorem words_nil {f:Flow} (h:rightF f=false):wordsF f=[]:=by unfold wordsF;rw [h];rfl
theorem parse_three (x c k:ByteArray):parseF [x,c,k]=if x=tFlow∧rightF ⟨c,kindO k⟩=true then (⟨c,kindO k⟩,0) else (zeroF,5):=rfl
theorem parse_words {f:Flow} (h:rightF f=true):parseF (wordsF f)=(f,0):=by
 rw [words_of h,parse_three,kindO_kindW (right_parts h).2,if_pos ⟨rfl,h⟩]
theorem parse_err (ws:List ByteArray):parseF ws=(zeroF,5)∨(wordsF (parseF ws).1=ws∧rightF (parseF ws).1=true∧(parseF ws).2=0):=by
 unfold parseF
 split
 ·rename_i x c k
  split
  ·rename_i h
   right
   obtain ⟨rfl,h2⟩:=h
   refine ⟨?_,h2,rfl⟩
   rw [words_of h2]
   have h0:0≤kindO k:=by
    unfold rightF at h2
    simp only [Bool.and_eq_true,decide_eq_true_eq] at h2
    exact h2.1.2
   rw [kindW_kindO h0]
  ·exact .inl rfl
 ·exact .inl rfl
theorem parse_len {ws:List ByteArray} (h:ws.length≠3):parseF ws=(zeroF,5):=by
 match ws,h with
 | [],_ | [_],_ | [_,_],_ | _::_::_::_::_,_=>rfl
 | [_,_,_],h=>exact absurd rfl h
abbrev findF (L:List Flow) (c:ByteArray):Option Flow:=findK Flow.code L c
def ofF (L:List Flow) (k:Int):List ByteArray:=(L.filter fun f=>decide (f.kind=k)).map Flow.code
def hasF (L:List Flow) (k:Int):Bool:=decide (0 < (ofF L k).length)
def addE (L:List Flow) (f:Flow):Int:=if rightF f=false then 1 else if (isK Flow.code L f.code || (decide (f.kind≠1) && hasF L f.kind))=true then 7 else if 60≤L.length then 4 else 0
def addV (L:List Flow) (f:Flow):List Flow:=if addE L f=0 then insK Flow.code L f else L
def kindL (L:List Flow) (c:ByteArray):Int:=if isK Flow.code L c=true then ((L[placeK Flow.code L c]?).getD zeroF).kind else 0
def wholeF (L:List Flow):Bool:=hasF L 0 && hasF L 2 && hasF L 3 && hasF L 4
def onesF (L:List Flow):Prop:=∀ k:Int,(0≤k∧k < 5)→k≠1→(ofF L k).length≤1
instance (L:List Flow):Decidable (onesF L):=decidable_of_iff ((ofF L 0).length≤1∧(ofF L 2).length≤1∧(ofF L 3).length≤1∧(ofF L 4).length≤1) (by
 unfold onesF
 constructor
 ·rintro ⟨h0,h2,h3,h4⟩ k hk h1
  rcases (by omega:k=0∨k=2∨k=3∨k=4) with rfl | rfl | rfl | rfl <;> assumption
 ·intro h
  exact ⟨h 0 (by omega) (by omega),h 2 (by omega) (by omega),h 3 (by omega) (by omega),h 4 (by omega) (by omega)⟩)
def riseF (L:List Flow):Bool:=riseK Flow.code L && decide (onesF L)
theorem ofF_length (L:List Flow) (k:Int):(ofF L k).length=(L.filter fun f=>decide (f.kind=k)).length:=by simp [ofF]
theorem mem_of {L:List Flow} {k:Int} {c:ByteArray}:c∈ofF L k ↔ ∃ f∈L,f.kind=k∧f.code=c:=by
 unfold ofF
 simp only [List.mem_map,List.mem_filter,decide_eq_true_eq]
 constructor
 ·rintro ⟨f,⟨h1,h2⟩,h3⟩;exact ⟨f,h1,h2,h3⟩
 ·rintro ⟨f,h1,h2,h3⟩;exact ⟨f,⟨h1,h2⟩,h3⟩
theorem addE_zero {L:List Flow} {f:Flow} (hr:riseK Flow.code L=true) (h:addE L f=0):rightF f=true∧findF L f.code=none∧(f.kind≠1→(ofF L f.kind).length=0)∧L.length < 60:=by
 unfold addE at h
 cases hrf:rightF f with
 | false=>rw [hrf] at h;simp at h
 | true =>
   rw [hrf] at h
   simp only [Bool.true_eq_false,if_false] at h
   cases hb:(isK Flow.code L f.code || (decide (f.kind≠1) && hasF L f.kind)) with
   | true=>rw [hb] at h;simp at h
   | false =>
     rw [hb] at h
     simp only [Bool.false_eq_true,if_false] at h
     rw [Bool.or_eq_false_iff] at hb
     refine ⟨rfl,?_,fun hk=>?_,?_⟩
     ·have:=(isK_find hr f.code).1
      rw [hb.1] at this
      cases hf:findF L f.code with
      | none=>rfl
      | some x =>
        have hf':findK Flow.code L f.code=some x:=hf
        rw [hf'] at this;cases this
     ·have h2:=hb.2
      rw [decide_eq_true hk,Bool.true_and] at h2
      unfold hasF at h2
      have:=of_decide_eq_false h2
      omega
     ·split at h
      ·simp at h
      ·omega
theorem ones_ins {L:List Flow} {f:Flow} (h:onesF L) (hf:f.kind≠1→(ofF L f.kind).length=0):onesF (insK Flow.code L f):=by
 intro k hk h1
 rw [ofF_length]
 by_cases e:f.kind=k
 ·rw [filter_ins_length L (by simpa using e),←ofF_length]
  subst e
  rw [hf h1]
  exact Nat.le_refl _
 ·rw [filter_ins_no L (by simpa using e),←ofF_length]
  exact h k hk h1
theorem rise_ins {L:List Flow} {f:Flow} (hr:riseF L=true) (h:addE L f=0):riseF (insK Flow.code L f)=true:=by
 unfold riseF at hr ⊢
 rw [Bool.and_eq_true,decide_eq_true_eq] at hr ⊢
 obtain ⟨_,h2,h3,_⟩:=addE_zero hr.1 h
 exact ⟨riseK_ins L f hr.1 h2,ones_ins hr.2 h3⟩
theorem rise_codes {L:List Flow} (h:riseF L=true):riseK Flow.code L=true:=by
 unfold riseF at h;rw [Bool.and_eq_true] at h;exact h.1
end Go.Proofs.YtdegffffcbhjbaaGreatDoor.Fl
end
section
namespace Go.Proofs.YtdegffffcbhjbaaGreatDoor.Un
open Go.RowKit
structure Ent where
 code:ByteArray
 cur:ByteArray
structure Lin where
 acc:ByteArray
 flow:ByteArray
 goal:ByteArray
theorem Ent.ext' {a b:Ent} (h0:a.code=b.code) (h1:a.cur=b.cur):a=b:=by
 cases a;cases b;simp_all
theorem Lin.ext' {a b:Lin} (h0:a.acc=b.acc) (h1:a.flow=b.flow) (h2:a.goal=b.goal):a=b:=by
 cases a;cases b;simp_all
instance : DecidableEq Ent:=fun a b =>
 if h:a.code=b.code∧a.cur=b.cur then isTrue (Ent.ext' h.1 h.2)
 else isFalse fun e=>h (by subst e;exact ⟨rfl,rfl⟩)
instance : DecidableEq Lin:=fun a b =>
 if h:a.acc=b.acc∧a.flow=b.flow∧a.goal=b.goal then isTrue (Lin.ext' h.1 h.2.1 h.2.2)
 else isFalse fun e=>h (by subst e;exact ⟨rfl,rfl,rfl⟩)
def Lin.key (x:Lin):ByteArray × ByteArray:=(x.acc,x.flow)
abbrev encE:Enc Ent:=⟨fun e=>[.string e.code,.string e.cur],2,fun _=>rfl,by decide,fun _ v hv=>by simp at hv;rcases hv with rfl | rfl <;> rfl⟩
abbrev encL:Enc Lin:=⟨fun e=>[.string e.acc,.string e.flow,.string e.goal],3,fun _=>rfl,by decide,fun _ v hv=>by simp at hv;rcases hv with rfl | rfl | rfl <;> rfl⟩
abbrev emp:ByteArray:=⟨#[]⟩
structure Mast where
 chart:List Acct
 flows:List Fl.Flow
 ents:List Ent
 lines:List Lin
 cur:ByteArray
 res:ByteArray
 dif:ByteArray
 min:ByteArray
 stk:ByteArray
def zeroM:Mast:=⟨[],[],[],[],emp,emp,emp,emp,emp⟩
def tEntity:ByteArray:=⟨#[101,110,116,105,116,121]⟩
def tMap:ByteArray:=⟨#[109,97,112]⟩
def tGroup:ByteArray:=⟨#[103,114,111,117,112]⟩
def tReserve:ByteArray:=⟨#[114,101,115,101,114,118,101]⟩
def tDiffer:ByteArray:=⟨#[100,105,102,102,101,114]⟩
def tMinor:ByteArray:=⟨#[109,105,110,111,114]⟩
def tStake:ByteArray:=⟨#[115,116,97,107,101]⟩
def lenW (h:ByteArray):Int :=
 if h=tGroup∨h=tReserve∨h=tDiffer∨h=tMinor∨h=tStake then 2 else if h=tEntity then 3 else if h=tMap then 4 else 0
def wd (ws:List ByteArray) (i:Nat):ByteArray:=ws.getD i emp
def namesW (ws:List ByteArray):Bool:=(ws.drop 1).all nmB
def formedW (ws:List ByteArray):Bool:=decide (0 < ws.length) && (decide ((ws.length:Int)=lenW (wd ws 0)) && namesW ws)
def entOf (ws:List ByteArray):Ent:=⟨wd ws 1,wd ws 2⟩
def linOf (ws:List ByteArray):Lin:=⟨wd ws 1,wd ws 2,wd ws 3⟩
def entE (L:List Ent) (x:Ent):Int:=if (G.findK Ent.code L x.code).isSome=true then 7 else if 60≤L.length then 4 else 0
def linEr (L:List Lin) (x:Lin):Int:=if (G.findK Lin.key L x.key).isSome=true then 7 else if 1000≤L.length then 4 else 0
def oneE (x:ByteArray):Int:=if x=emp then 0 else 7
def stepE (M:Mast) (ws:List ByteArray):Int :=
 if wd ws 0=tAccount then (if (parseA ws).2=0 then addE M.chart (parseA ws).1 else (parseA ws).2)
 else if wd ws 0=Fl.tFlow then (if (Fl.parseF ws).2=0 then Fl.addE M.flows (Fl.parseF ws).1 else (Fl.parseF ws).2)
 else if formedW ws=false then 5
 else if wd ws 0=tEntity then entE M.ents (entOf ws)
 else if wd ws 0=tMap then linEr M.lines (linOf ws)
 else if wd ws 0=tGroup then oneE M.cur
 else if wd ws 0=tReserve then oneE M.res
 else if wd ws 0=tDiffer then oneE M.dif
 else if wd ws 0=tMinor then oneE M.min
 else oneE M.stk
def stepV (M:Mast) (ws:List ByteArray):Mast :=
 if wd ws 0=tAccount then { M with chart:=insL M.chart (parseA ws).1 }
 else if wd ws 0=Fl.tFlow then { M with flows:=insK Fl.Flow.code M.flows (Fl.parseF ws).1 }
 else if wd ws 0=tEntity then { M with ents:=G.insK Ent.code M.ents (entOf ws) }
 else if wd ws 0=tMap then { M with lines:=G.insK Lin.key M.lines (linOf ws) }
 else if wd ws 0=tGroup then { M with cur:=wd ws 1 }
 else if wd ws 0=tReserve then { M with res:=wd ws 1 }
 else if wd ws 0=tDiffer then { M with dif:=wd ws 1 }
 else if wd ws 0=tMinor then { M with min:=wd ws 1 }
 else { M with stk:=wd ws 1 }
def runM:Mast→List (List ByteArray)→Mast × Int
 | M,[]=>(M,0)
 | M,ws::r=>if stepE M ws=0 then runM (stepV M ws) r else (zeroM,stepE M ws)
def hasA (c:List Acct) (s:ByteArray):Bool:=(findL c s).isSome
def rolesN (M:Mast):Bool:=hasA M.chart M.res && hasA M.chart M.dif && hasA M.chart M.min && hasA M.chart M.stk
def lineN (M:Mast) (x:Lin):Bool:=hasA M.chart x.acc && isK Fl.Flow.code M.flows x.flow
def linesN (M:Mast):Bool:=M.lines.all (lineN M)
def plainA (c:List Acct) (s:ByteArray) (cls:Int):Bool:=decide ((findL c s).getD zeroA=⟨s,cls,false,false,emp,false⟩)
def rolesP (M:Mast):Bool:=plainA M.chart M.res 2 && plainA M.chart M.dif 0 && plainA M.chart M.min 2 && plainA M.chart M.stk 0
def allE (M:Mast):Int :=
 if (decide (M.cur=emp) || !rolesN M || !linesN M)=true then 6
 else if Fl.wholeF M.flows=false then 8
 else if rolesP M=false then 15 else 0
def endM (r:Mast × Int):Mast × Int:=if r.2=0 then (if allE r.1=0 then r else (zeroM,allE r.1)) else (zeroM,r.2)
def linesM (l:List (List ByteArray)):Mast × Int:=endM (runM zeroM l)
def wordsT (s:ByteArray):List (List ByteArray):=(asB (linV s.data.toList)).map (·.2)
def parseM (s:ByteArray):Mast × Int:=if linE s.data.toList=0 then linesM (wordsT s) else (zeroM,linE s.data.toList)
theorem runM_cons (M:Mast) (ws:List ByteArray) (r:List (List ByteArray)) (h:stepE M ws=0):runM M (ws::r)=runM (stepV M ws) r:=by simp [runM,h]
theorem runM_stop (M:Mast) (ws:List ByteArray) (r:List (List ByteArray)) (h:stepE M ws≠0):runM M (ws::r)=(zeroM,stepE M ws):=by simp [runM,h]
theorem endM_stop (n:Int) (h:n≠0):endM (zeroM,n)=(zeroM,n):=by simp [endM,h]
theorem endM_no (M:Mast) (h:allE M≠0):endM (M,0)=(zeroM,allE M):=by simp [endM,h]
theorem endM_ok (M:Mast) (h:allE M=0):endM (M,0)=(M,0):=by simp [endM,h]
end Go.Proofs.YtdegffffcbhjbaaGreatDoor.Un
end
section
namespace Go.Proofs.YtdegffffcbhjbaaGreatDoor.Fl
open Go.RowKit
def cmpB (x y:ByteArray):Int:=Lib.compareBytes x.data.toList y.data.toList
theorem cmpL_lt:∀ (x y:List UInt8),Lib.compareBytes x y < 0 ↔ Op.bytesLess x y=true
 | [],[]=>by simp [Lib.compareBytes,Op.bytesLess]
 | [],_::_=>by simp [Lib.compareBytes,Op.bytesLess]
 | _::_,[]=>by simp [Lib.compareBytes,Op.bytesLess]
 | a::x,b::y=>by
   have ih:=cmpL_lt x y
   unfold Lib.compareBytes Op.bytesLess
   by_cases h1:a < b
   ·simp [h1]
   ·by_cases h2:b < a
    ·have:(a==b)=false:=by
      rw [beq_eq_false_iff_ne]
      rintro rfl
      exact h1 h2
     simp [h1,h2,this]
    ·have:a=b:=by
      rw [UInt8.lt_iff_toNat_lt] at h1 h2
      exact UInt8.toNat_inj.1 (by omega)
     subst this
     simp [h1,ih]
theorem cmpL_eq0:∀ (x y:List UInt8),Lib.compareBytes x y=0 ↔ x=y
 | [],[]=>by simp [Lib.compareBytes]
 | [],_::_=>by simp [Lib.compareBytes]
 | _::_,[]=>by simp [Lib.compareBytes]
 | a::x,b::y=>by
   have ih:=cmpL_eq0 x y
   unfold Lib.compareBytes
   by_cases h1:a < b
   ·have:a≠b:=by
     rintro rfl
     rw [UInt8.lt_iff_toNat_lt] at h1;omega
    simp [h1,this]
   ·by_cases h2:b < a
    ·have:a≠b:=by
      rintro rfl
      exact h1 h2
     simp [h1,h2,this]
    ·have:a=b:=by
      rw [UInt8.lt_iff_toNat_lt] at h1 h2
      exact UInt8.toNat_inj.1 (by omega)
     subst this
     simp [h1,ih]
theorem cmpB_lt (x y:ByteArray):decide (cmpB x y < 0)=ltS x y:=by
 rw [Bool.eq_iff_iff,decide_eq_true_eq]
 unfold cmpB ltS
 rw [cmpL_lt,ByteArray.toList_eq,ByteArray.toList_eq]
theorem cmpB_eq (x y:ByteArray):(cmpB x y==0)=decide (x=y):=by
 rw [Bool.eq_iff_iff,beq_iff_eq,decide_eq_true_eq]
 unfold cmpB
 rw [cmpL_eq0]
 exact ⟨fun h=>toList_inj (by rw [ByteArray.toList_eq,ByteArray.toList_eq];exact h),fun h=>by rw [h]⟩
set_option maxHeartbeats 1000000 in
set_option maxRecDepth 100000 in
theorem compareString_any (a b:ByteArray) (w:World) :
 Calls Tryz.prog 131 #[.string a,.string b] w fun e w'=>e=.returned (.int .i64 (cmpB a b))∧w'=w:=by
 go_enter Tryz.func131,Tryz.ntmps131
 go_wp2
 rw [run_callFunc_extern Tryz.func159 (by kernel_rfl) (by kernel_rfl) (by kernel_rfl) (e:=Extern.BytealgCompare.compare) (by kernel_rfl),Lib.run_compareString]
 simp only [Result.andThen]
 rw [Oper.upon_value]
 go_wp2
 go_ret
 exact ⟨rfl,rfl⟩
set_option maxHeartbeats 1000000 in
theorem compare_any (a b:ByteArray) (w:World) :
 Calls Tryz.prog 100 #[.string a,.string b] w fun e w'=>e=.returned (.int .i64 (cmpB a b))∧w'=w:=by
 go_enter Tryz.func100,Tryz.ntmps100
 go_wp2_with (go_at_call 131;refine (compareString_any _ _ _).mono ?_;rintro e w' ⟨rfl,rfl⟩)
 go_ret
 exact ⟨rfl,rfl⟩
set_option maxHeartbeats 1000000 in
theorem against_any (f:Flow) (c:ByteArray) (w:World) :
 Calls Tryz.prog 98 #[aggL f,.string c] w fun e w'=>e=.returned (.int .i64 (cmpB f.code c))∧Below w.heap.size w w':=by
 have HB:=Lib.hid ((Below.refl w.heap.size w).alloc (Nat.le_refl _) (.cells #[.string f.code,.int .i64 f.kind] 143))
 go_enter Tryz.func98,Tryz.ntmps98
 go_wp2_with (go_at_call 100;refine (compare_any _ _ _).mono ?_;rintro e w' ⟨rfl,rfl⟩)
 go_ret
 exact ⟨rfl,HB.out⟩
structure SearchAt (w wr:World) (L:List Flow) (c:ByteArray) (lo hi:Nat):Prop where
 le:lo≤hi
 top:hi≤L.length
 bel:Below w.heap.size w wr
 low:∀ (t:Nat) (x:Flow),t < lo→L[t]?=some x→ltS x.code c=true
 high:∀ (t:Nat) (x:Flow),hi≤t→L[t]?=some x→ltS x.code c=false
set_option maxRecDepth 100000 in
set_option maxHeartbeats 4000000 in
theorem search_any (v:Value) (L:List Flow) (c:ByteArray) (w:World) (h:FlowsV w v L) (hr:riseK Flow.code L=true) (hL:L.length≤1000) :
 Calls Tryz.prog 97 #[v,.string c,.func (.func 98) #[] #[]] w fun e w'=>e=.returned (.tuple #[.int .i64 (placeK Flow.code L c:Nat),.bool (isK Flow.code L c)])∧Below w.heap.size w w':=by
 obtain ⟨p,cap,rfl,hcap,hm,_,hc⟩:=h
 obtain ⟨n,hn⟩:∃ n,L.length=n:=⟨_,rfl⟩
 obtain ⟨pl,hpl⟩:∃ pl,placeK Flow.code L c=pl:=⟨_,rfl⟩
 obtain ⟨is,his⟩:∃ is,isK Flow.code L c=is:=⟨_,rfl⟩
 rw [hn] at hcap hL ⊢
 rw [hpl,his]
 have HC:=Lib.hid hc
 have HN:=Lib.hid hn
 have HPL:=Lib.hid hpl
 have HIS:=Lib.hid his
 have HRI:=Lib.hid hr
 unfold maxLen at hm
 clear hc hn hpl his hr
 go_enter Tryz.func97,Tryz.ntmps97
 go_wp2
 go_loopg [9,10] n (fun kx s9 s10 wr=>∃ lo hi:Nat,s9=.int .i64 (lo:Int)∧s10=.int .i64 (hi:Int)∧hi - lo≤kx∧lo≤hi∧hi≤n∧Hid (SearchAt w wr L c lo hi))
 case atStart=>exact ⟨0,n,rfl,rfl,by omega,Nat.zero_le _,Nat.le_refl _,Lib.hid ⟨Nat.zero_le _,by rw [HN.out];exact Nat.le_refl _,Below.refl _ _,fun t x ht=>absurd ht (Nat.not_lt_zero _),fun t x ht hx=>by
  have:=(List.getElem?_eq_some_iff.1 hx).1
  rw [HN.out] at this;omega⟩⟩
 case round =>
  obtain ⟨lo,hi,rfl,rfl,hkx,hlh,hin,HA⟩:=hrel
  by_cases hlt:lo < hi
  ·have hmid:(lo+hi) / 2 < n:=by omega
   obtain ⟨x,hx⟩:∃ x,L[(lo+hi) / 2]?=some x:=⟨_,List.getElem?_eq_getElem (by rw [HN.out];exact hmid)⟩
   obtain ⟨b,o,rfl,hat⟩:=HC.out _ x hx
   obtain ⟨c0,c1⟩:=two (hat.keep HA.out.bel hat.lt)
   have HX:=Lib.hid hx
   clear hx hat
   have HAG:=Lib.hid (against_any x c wr)
   obtain ⟨m,hmm⟩:∃ m,cmpB x.code c=m:=⟨_,rfl⟩
   have HM:=Lib.hid (cmpB_lt x.code c)
   rw [hmm] at HAG HM
   clear hmm
   by_cases hm0:m < 0
   ·have HLT:Hid (ltS x.code c=true):=Lib.hid (by rw [←HM.out];exact decide_eq_true hm0)
    go_wp2_with (go_at_call 98;refine HAG.out.mono ?_;rintro e w' ⟨rfl,hb'⟩)
    go_roundg (hi - ((lo+hi) / 2+1))
    case measure=>omega
    case rel=>exact ⟨(lo+hi) / 2+1,hi,by rw [show ((lo:Int)+(hi:Int)) / 2+1=(((lo+hi) / 2+1:Nat):Int) by omega],rfl,Nat.le_refl _,by omega,hin,Lib.hid ⟨by omega,HA.out.top,HA.out.bel.trans (hb'.mono HA.out.bel.size),fun t y ht hy=>by
     rcases Nat.lt_or_ge t ((lo+hi) / 2) with h | h
     ·exact ltS_trans (riseK_at HRI.out h hy HX.out) HLT.out
     ·obtain rfl:t=(lo+hi) / 2:=by omega
      rw [HX.out] at hy;cases hy;exact HLT.out,HA.out.high⟩⟩
   ·have HLT:Hid (ltS x.code c=false):=Lib.hid (by rw [←HM.out];exact decide_eq_false hm0)
    go_wp2_with (go_at_call 98;refine HAG.out.mono ?_;rintro e w' ⟨rfl,hb'⟩)
    go_roundg ((lo+hi) / 2 - lo)
    case measure=>omega
    case rel=>exact ⟨lo,(lo+hi) / 2,rfl,by rw [show ((lo:Int)+(hi:Int)) / 2=(((lo+hi) / 2:Nat):Int) by omega],Nat.le_refl _,by omega,by omega,Lib.hid ⟨by omega,by have:=HA.out.top;omega,HA.out.bel.trans (hb'.mono HA.out.bel.size),HA.out.low,fun t y ht hy=>by
     rcases Nat.lt_or_ge ((lo+hi) / 2) t with h | h
     ·cases hy':ltS y.code c with
      | false=>rfl
      | true=>rw [ltS_trans (riseK_at HRI.out h HX.out hy) hy'] at HLT;cases HLT.out
     ·obtain rfl:t=(lo+hi) / 2:=by omega
      rw [HX.out] at hy;cases hy;exact HLT.out⟩⟩
  ·obtain rfl:hi=lo:=by omega
   have hpl:Hid (pl=hi):=Lib.hid (by
    rw [←HPL.out]
    exact placeK_at HA.out.top HA.out.low (fun y hy=>HA.out.high hi y (Nat.le_refl _) hy))
   by_cases hn:hi < n
   ·obtain ⟨x,hx⟩:∃ x,L[hi]?=some x:=⟨_,List.getElem?_eq_getElem (by rw [HN.out];exact hn)⟩
    obtain ⟨b,o,rfl,hat⟩:=HC.out _ x hx
    obtain ⟨c0,c1⟩:=two (hat.keep HA.out.bel hat.lt)
    have HX:=Lib.hid hx
    clear hx hat
    have HAG:=Lib.hid (against_any x c wr)
    obtain ⟨m,hmm⟩:∃ m,cmpB x.code c=m:=⟨_,rfl⟩
    have HM:=Lib.hid (cmpB_eq x.code c)
    rw [hmm] at HAG HM
    clear hmm
    have HI2:Hid (is=(m==0)):=Lib.hid (by
     rw [←HIS.out,HM.out]
     unfold isK
     rw [HPL.out,hpl.out,HX.out])
    go_wp2_with (go_at_call 98;refine HAG.out.mono ?_;rintro e w' ⟨rfl,hb'⟩)
    go_ret2
    exact ⟨by rw [hpl.out,HI2.out];rfl,HA.out.bel.trans (hb'.mono HA.out.bel.size)⟩
   ·have HI2:Hid (is=false):=Lib.hid (by
     rw [←HIS.out]
     unfold isK
     rw [HPL.out,hpl.out,List.getElem?_eq_none (by rw [HN.out];omega)])
    go_wp2
    go_ret2
    exact ⟨by rw [hpl.out,HI2.out];rfl,HA.out.bel⟩
set_option maxRecDepth 100000 in
set_option maxHeartbeats 4000000 in
theorem place_any (v:Value) (L:List Flow) (c:ByteArray) (w:World) (h:FlowsV w v L) (hr:riseK Flow.code L=true) (hL:L.length≤1000) :
 Calls Tryz.prog 60 #[v,.string c] w fun e w'=>e=.returned (.tuple #[.int .i64 (placeK Flow.code L c:Nat),.bool (isK Flow.code L c)])∧Below w.heap.size w w':=by
 have HS:=Lib.hid (search_any v L c w h hr hL)
 obtain ⟨pl,hpl⟩:∃ pl,placeK Flow.code L c=pl:=⟨_,rfl⟩
 obtain ⟨is,his⟩:∃ is,isK Flow.code L c=is:=⟨_,rfl⟩
 rw [hpl,his] at HS ⊢
 clear hpl his h hr
 go_enter Tryz.func60,Tryz.ntmps60
 go_wp2_with (go_at_call 97;refine HS.out.mono ?_;rintro e w' ⟨rfl,hb'⟩)
 go_ret2
 exact ⟨rfl,hb'⟩
set_option maxRecDepth 100000 in
set_option maxHeartbeats 4000000 in
theorem kind_any (v:Value) (L:List Flow) (c:ByteArray) (w:World) (h:FlowsV w v L) (hr:riseK Flow.code L=true) (hL:L.length≤1000) :
 Calls Tryz.prog 36 #[v,.string c] w fun e w'=>e=.returned (.tuple #[.int .i64 (kindL L c),.bool (isK Flow.code L c)])∧Below w.heap.size w w':=by
 have HP:=Lib.hid (place_any v L c w h hr hL)
 obtain ⟨pl,hpl⟩:∃ pl,placeK Flow.code L c=pl:=⟨_,rfl⟩
 obtain ⟨is,his⟩:∃ is,isK Flow.code L c=is:=⟨_,rfl⟩
 obtain ⟨k,hk⟩:∃ k,kindL L c=k:=⟨_,rfl⟩
 rw [hpl,his] at HP
 rw [his,hk]
 have HPL:=Lib.hid hpl
 have HIS:=Lib.hid his
 have HK:=Lib.hid hk
 obtain ⟨p,cap,rfl,hcap,hm,_,hc⟩:=h
 unfold maxLen at hm
 have HC:=Lib.hid hc
 clear hpl his hk hc hr
 cases is with
 | false =>
   have hk0:Hid (k=0):=Lib.hid (by rw [←HK.out];unfold kindL;rw [HIS.out];rfl)
   go_enter Tryz.func36,Tryz.ntmps36
   go_wp2_with (go_at_call 60;refine HP.out.mono ?_;rintro e w' ⟨rfl,hb'⟩)
   go_ret2
   exact ⟨by rw [hk0.out];rfl,hb'⟩
 | true =>
   have hx:∃ x,L[pl]?=some x∧x.kind=k:=by
    have h1:=HIS.out
    have h2:=HK.out
    unfold kindL at h2
    rw [h1,HPL.out] at h2
    unfold isK at h1
    rw [HPL.out] at h1
    cases hx:L[pl]? with
    | none=>rw [hx] at h1;cases h1
    | some x=>rw [hx] at h2;exact ⟨x,rfl,h2⟩
   obtain ⟨x,hx,hxk⟩:=hx
   have hpn:pl < L.length:=(List.getElem?_eq_some_iff.1 hx).1
   obtain ⟨b,o,rfl,hat⟩:=HC.out _ x hx
   have HAT:=Lib.hid hat
   have HXK:=Lib.hid hxk
   obtain ⟨n,hn⟩:∃ n,L.length=n:=⟨_,rfl⟩
   rw [hn] at hpn hcap hL HP ⊢
   clear hx hat hxk hn
   go_enter Tryz.func36,Tryz.ntmps36
   go_wp2_with (go_at_call 60;refine HP.out.mono ?_;rintro e w' ⟨rfl,hb'⟩;obtain ⟨c0,c1⟩:=two (HAT.out.keep hb' HAT.out.lt))
   go_ret2
   exact ⟨by rw [←HXK.out];rfl,hb'⟩
end Go.Proofs.YtdegffffcbhjbaaGreatDoor.Fl
end
section
namespace Go.Proofs.YtdegffffcbhjbaaGreatDoor
open Go.RowKit
structure Past (w:World) where
 goal:World
 below:Below w.heap.size w goal
instance (w:World):Nonempty (Past w):=⟨⟨w,Below.refl _ _⟩⟩
theorem wp_region_past {P:Program} {id:Nat} {Q:Exit→Act→World→Prop} {a:Act} {w:World} {l:List Oper} (hm:P.follows .mixedOrders=true) (hB:Region.lexB .any l.toArray=true)
 (h:wpQuiet P l.toArray (fun w'=>∃ p:Past w,w'=p.goal) (fun a'=>∀ w',(∃ p:Past w,w'=p.goal)→Q .normal a' w') l a):(Code.region id l.toArray true).wp P Q a w :=
 wp_region_quiet (C:=fun w'=>∃ p:Past w,w'=p.goal) hm hB ⟨⟨w.drew,⟨rfl,rfl,rfl,Nat.le_refl _,fun _ _=>rfl⟩⟩,rfl⟩ (by simpa using h)
theorem cell_past {w:World} {ad:Addr} {v:Value} (h:w.cell? ad=some v) (p:Past w):p.goal.cell? ad=some v :=
 (p.below.cell (World.block_lt_of_cell? w _ h)).trans h
theorem Calls.past_of {P:Program} {f:FuncId} {args:Array Value} {w:World} {p:Past w} {v:Value} (h:Calls P f args p.goal fun e w'=>e=.returned v∧Below p.goal.heap.size p.goal w') :
 Calls P f args p.goal fun e w''=>e=.returned v∧∃ p':Past w,w''=p'.goal :=
 h.mono fun _ w'' ⟨he,hb⟩=>⟨he,⟨w'',p.below.trans (hb.mono p.below.size)⟩,rfl⟩
end Go.Proofs.YtdegffffcbhjbaaGreatDoor
end
section
namespace Go.Proofs.YtdegffffcbhjbaaGreatDoor.Un
open Go.RowKit
theorem ent2 {w:World} {b o:Nat} {f:Ent} (h:ElAt encE w b o f):w.cell? ⟨b,o,none⟩=some (.string f.code)∧w.cell? ⟨b,o+1,none⟩=some (.string f.cur):=⟨h 0 _ rfl,h 1 _ rfl⟩
theorem lin3 {w:World} {b o:Nat} {f:Lin} (h:ElAt encL w b o f):w.cell? ⟨b,o,none⟩=some (.string f.acc)∧w.cell? ⟨b,o+1,none⟩=some (.string f.flow)∧w.cell? ⟨b,o+2,none⟩=some (.string f.goal):=⟨h 0 _ rfl,h 1 _ rfl,h 2 _ rfl⟩
abbrev aggE (f:Ent):Value:=.agg #[.string f.code,.string f.cur]
abbrev aggN (f:Lin):Value:=.agg #[.string f.acc,.string f.flow,.string f.goal]
def cmpE (x y:Ent):Int:=Fl.cmpB x.code y.code
def cmpN (x y:Lin):Int:=if Fl.cmpB x.acc y.acc=0 then Fl.cmpB x.flow y.flow else Fl.cmpB x.acc y.acc
theorem cmpE_lt (x y:Ent):decide (cmpE x y < 0)=G.KeyO.lt x.code y.code:=Fl.cmpB_lt _ _
theorem cmpE_eq (x y:Ent):(cmpE x y==0)=decide (x.code=y.code):=Fl.cmpB_eq _ _
theorem cmpB_zero (x y:ByteArray):Fl.cmpB x y=0 ↔ x=y:=by
 have:=Fl.cmpB_eq x y
 rw [Bool.eq_iff_iff,beq_iff_eq,decide_eq_true_eq] at this
 exact this
theorem cmpN_lt (x y:Lin):decide (cmpN x y < 0)=G.KeyO.lt x.key y.key:=by
 show _=G.ltP x.key y.key
 unfold cmpN
 by_cases h:Fl.cmpB x.acc y.acc=0
 ·rw [if_pos h,Fl.cmpB_lt]
  have e:=(cmpB_zero _ _).1 h
  unfold G.ltP Lin.key
  simp only [e,ltS_irr,decide_true,Bool.false_or,Bool.true_and]
 ·rw [if_neg h,Fl.cmpB_lt]
  have e:x.acc≠y.acc:=fun e=>h ((cmpB_zero _ _).2 e)
  unfold G.ltP Lin.key
  simp only [e,decide_false,Bool.false_and,Bool.or_false]
theorem cmpN_eq (x y:Lin):(cmpN x y==0)=decide (x.key=y.key):=by
 rw [Bool.eq_iff_iff,beq_iff_eq,decide_eq_true_eq]
 unfold cmpN Lin.key
 by_cases h:Fl.cmpB x.acc y.acc=0
 ·rw [if_pos h,cmpB_zero,Prod.mk.injEq]
  exact ⟨fun e=>⟨(cmpB_zero _ _).1 h,e⟩,fun e=>e.2⟩
 ·rw [if_neg h,Prod.mk.injEq]
  exact ⟨fun e=>absurd e h,fun e=>absurd ((cmpB_zero _ _).2 e.1) h⟩
set_option maxHeartbeats 1000000 in
theorem againstE_any (x y:Ent) (w:World) :
 Calls Tryz.prog 109 #[aggE x,aggE y] w fun e w'=>e=.returned (.int .i64 (cmpE x y))∧Below w.heap.size w w':=by
 have HB:=Lib.hid (((Below.refl w.heap.size w).alloc (Nat.le_refl _) (.cells #[.string x.code,.string x.cur] 188)).alloc (by simp) (.cells #[.string y.code,.string y.cur] 188))
 go_enter Tryz.func109,Tryz.ntmps109
 go_wp2_with (go_at_call 100;refine (Fl.compare_any _ _ _).mono ?_;rintro e w' ⟨rfl,rfl⟩)
 go_ret
 exact ⟨rfl,HB.out⟩
def orI (x y:Int):Int:=if x=0 then y else x
set_option maxHeartbeats 1000000 in
theorem cmpOr_any (x y:Int) (b:Nat) (w:World) (c0:w.cell? ⟨b,0,none⟩=some (.int .i64 x)) (c1:w.cell? ⟨b,1,none⟩=some (.int .i64 y)) :
 Calls Tryz.prog 99 #[.slice (some ⟨b,0,none⟩) 2 2] w fun e w'=>e=.returned (.int .i64 (orI x y))∧w'=w:=by
 by_cases hx:x=0
 ·subst hx
  by_cases hy:y=0
  ·subst hy
   go_enter Tryz.func99,Tryz.ntmps99
   go_wp2
   refine wp_loop_rounds 3 ?_
   rw [rounds_succ]
   go_wp2
   rw [rounds_succ]
   go_wp2
   rw [rounds_succ]
   go_wp2
   go_ret
   exact ⟨rfl,rfl⟩
  ·have e:orI 0 y=y:=by simp [orI]
   rw [e]
   go_enter Tryz.func99,Tryz.ntmps99
   go_wp2
   refine wp_loop_rounds 2 ?_
   rw [rounds_succ]
   go_wp2
   rw [rounds_succ]
   go_wp2
   go_ret
   exact ⟨rfl,rfl⟩
 ·have e:orI x y=x:=by simp [orI,hx]
  rw [e]
  go_enter Tryz.func99,Tryz.ntmps99
  go_wp2
  refine wp_loop_rounds 1 ?_
  rw [rounds_succ]
  go_wp2
  go_ret
  exact ⟨rfl,rfl⟩
end Go.Proofs.YtdegffffcbhjbaaGreatDoor.Un
end
section
namespace Go.Proofs.YtdegffffcbhjbaaGreatDoor
open Go.RowKit Go.Maps Go.WideElems Go.ChangeShapes Go.WideShapes Go.MapKept Go.ChangeMaps
section
variable {H:Type} {P:Program} {w:World} {t k e:TypeId} {R:Value→Option (DataW H × List MemPlace)} {b n:Nat} {D:DataW H}
theorem grownBy_block (w:World) {b:Nat} {es:Array MapEntry} {c:Nat} (hb:w.heap[b]?=some (.map es c)) (o:Obj):w.grownBy (setBlock w b o) (some b) :=
 ⟨rfl,rfl,rfl,by simp [setBlock],fun i _ hi=>heap_setBlock_other hb _ (fun e=>hi (by rw [e]))⟩
theorem setBlock_set (w:World) (b:Nat) (o o':Obj):setBlock (setBlock w b o) b o'=setBlock w b o':=by
 unfold setBlock
 simp
theorem run_inj {α:Type} {a a':α} {x y:World} {r:Result α} (h1:r=.ok a x) (h2:r=.ok a' y):x=y:=by
 rw [h1] at h2;injection h2
theorem own_entry (h:w.ownsMap P k R b n D) (K:Keyed P k) (ht:P.underlying t=some (.map k e)) {z:Value} (hz:∀ u:World,(zeroValue e).run P u=.ok z u) {zd:DataW H} {zp:List MemPlace} (hzd:R z=some (zd,zp)) (hn:n < maxLen)
 {key:Value} {kl:Lit} (hkey:keyOf P k key=some kl) :
 ∃ (v0:Value) (st:Nat) (w1:World) (dv:DataW H),(Instr.mapEntry t (.map (some b)) key).run P w=.ok (.tuple #[v0,goInt st]) w1∧w.grownBy w1 (some b)∧w1.ownsMap P k R b (n+1) (D.put kl dv)∧dv=D.atKey kl zd ∧
   ∀ (val:Value) (d:DataW H) (ps:List MemPlace),R val=some (d,ps)→∃ w2,(Instr.entryStore t (.map (some b)) (goInt st) val).run P w1=.ok () w2∧w2.ownsMap P k R b (n+1) (D.put kl d)∧w1.grownBy w2 (some b):=by
 have h0:=h
 obtain ⟨es,clock,hb,F,hs,hD⟩:=h
 obtain ⟨s1,s2,_⟩:=F.stamped
 rcases K.find w hkey es.toList F.keys with ⟨h1,h2⟩ | ⟨j,e0,h1,h2,h3⟩
 ·have hup:∀ val,(Instr.mapUpdate t (.map (some b)) key val).run P w=.ok () (setBlock w b (.map (es.push ⟨key,val,clock⟩) (clock+1))):=fun val=>by
   simp [Instr.mapUpdate,run_underlying ht,MapKept.run_getObj_map hb,K.check w false hkey,h1,MapKept.run_setObj_map _ hb,Result.andThen,setBlock]
  have hat:D.atKey kl zd=zd:=by
   obtain ⟨v,ps,hr,hv⟩:=h0.lookup K ht (hz w) hzd hkey
   rcases Maps.fit_look false K ht (hz w) hb F hkey with ⟨_,_,hat⟩ | ⟨e1,y,he1,hk1,_⟩
   ·rw [hD];exact hat zd
   ·exact absurd hk1 (h2 e1 he1)
  refine ⟨z,clock,setBlock w b (.map (es.push ⟨key,z,clock⟩) (clock+1)),zd,?_,grownBy_block w hb _,?_,hat.symm,fun val d ps hv=>?_⟩
  ·simp [Instr.mapEntry,run_underlying ht,MapKept.run_getObj_map hb,K.check w false hkey,h1,hz,MapKept.run_setObj_map _ hb,Result.andThen,setBlock]
  ·obtain ⟨w',hr,ho,_⟩:=h0.update K ht hn hkey hzd
   rw [run_inj (hup z) hr];exact ho
  ·obtain ⟨w',hr,ho,_⟩:=h0.update K ht hn hkey hv
   have hidx:(es.push ⟨key,z,clock⟩).findIdx? (fun e=>((e.born:Nat):Int)==((clock:Nat):Int))=some es.size:=by
    rw [findIdx_arr]
    exact findIdx_born (l:=(es.push ⟨key,z,clock⟩).toList) (j:=es.size) (e0:=⟨key,z,clock⟩) (by
     simp only [Array.toList_push,List.map_append,List.map_cons,List.map_nil]
     refine List.nodup_append.2 ⟨s2,by simp,fun a ha c hc e1=>?_⟩
     simp only [List.mem_singleton] at hc
     obtain ⟨x,hx,rfl⟩:=List.mem_map.1 ha
     have:=s1 x hx
     omega) (by simp)
   have hmod:(es.push ⟨key,z,clock⟩).modify es.size (fun e=>{ e with val:=val })=es.push ⟨key,val,clock⟩:=by
    apply Array.ext'
    rw [Array.toList_modify,Array.toList_push,Array.toList_push,←Array.length_toList,modify_last]
   have hw2:(setBlock w b (.map (es.push ⟨key,z,clock⟩) (clock+1))).heap[b]?=some (.map (es.push ⟨key,z,clock⟩) (clock+1)):=heap_setBlock_same hb _
   refine ⟨setBlock (setBlock w b (.map (es.push ⟨key,z,clock⟩) (clock+1))) b (.map (es.push ⟨key,val,clock⟩) (clock+1)),?_,?_,grownBy_block _ hw2 _⟩
   ·generalize setBlock w b (.map (es.push ⟨key,z,clock⟩) (clock+1))=w1 at hw2
    simp [Instr.entryStore,MapKept.run_getObj_map hw2,asInt,asIntOf,goInt,hidx,hmod,MapKept.run_setObj_map _ hw2,Result.andThen,setBlock]
   ·rw [setBlock_set w b,run_inj (hup val) hr];exact ho
 ·have hj:es[j]?=some e0:=by simpa using h2
  have hsame:es.modify j (fun e=>{ e with key:=key })=es:=by
   apply Array.ext'
   rw [Array.toList_modify,modify_eq_set _ _ _ _ h2]
   have:({ e0 with key:=key }:MapEntry)=e0:=by rw [←h3]
   rw [this]
   exact set_self _ _ _ h2
  have hup:∀ val,(Instr.mapUpdate t (.map (some b)) key val).run P w=.ok () (setBlock w b (.map (es.modify j (fun e'=>{ e' with key:=key,val:=val })) clock)):=fun val=>by
   simp [Instr.mapUpdate,run_underlying ht,MapKept.run_getObj_map hb,K.check w false hkey,h1,hj,h3,K.stays w hkey,MapKept.run_setObj_map _ hb,Result.andThen,setBlock]
  have hwb:setBlock w b (.map es clock)=w:=by
   unfold setBlock
   have:w.heap.setIfInBounds b (.map es clock)=w.heap:=by
    apply Array.ext_getElem?
    intro i
    by_cases hi:i=b
    ·subst hi
     have hlt:=(Array.getElem?_eq_some_iff.1 hb).1
     rw [Array.getElem?_setIfInBounds_self_of_lt hlt,hb]
    ·rw [Array.getElem?_setIfInBounds_ne (fun e=>hi e.symm)]
   rw [this]
  have hself:es.modify j (fun e'=>{ e' with key:=key,val:=e0.val })=es:=by
   apply Array.ext'
   rw [Array.toList_modify,modify_eq_set _ _ _ _ h2]
   have:({ e0 with key:=key,val:=e0.val }:MapEntry)=e0:=by rw [←h3]
   rw [this]
   exact set_self _ _ _ h2
  obtain ⟨dv,pv,hrv,hat⟩:∃ dv pv,R e0.val=some (dv,pv)∧dv=D.atKey kl zd:=by
   rcases Maps.fit_look false K ht (hz w) hb F hkey with ⟨_,hno,_⟩ | ⟨e1,y,he1,hk1,hrun,hRv,hat,_⟩
   ·exact absurd h3 (hno e0 (List.mem_of_getElem? h2))
   ·have he:e1=e0:=by
     have hnd:es.toList.Pairwise (fun x y=>x.key≠y.key):=((stamped_iff es clock).1 F.stamped).2.2
     by_cases heq:e1=e0
     ·exact heq
     ·obtain ⟨i1,hi1,hi1e⟩:=List.getElem_of_mem he1
      have hlt2:=(List.getElem?_eq_some_iff.1 h2).1
      have h2':es.toList[j]=e0:=(List.getElem?_eq_some_iff.1 h2).2
      have hp:=List.pairwise_iff_getElem.1 hnd
      rcases Nat.lt_trichotomy i1 j with hl | hl | hl
      ·exact absurd (by rw [hi1e,h2',hk1,h3]) (hp i1 j hi1 hlt2 hl)
      ·subst hl;rw [h2'] at hi1e;exact hi1e.symm
      ·exact absurd (by rw [hi1e,h2',hk1,h3]) (hp j i1 hlt2 hi1 hl)
    subst he
    exact ⟨y.1,y.2,hRv,by rw [hD];exact (hat zd).symm⟩
  refine ⟨e0.val,e0.born,w,dv,?_,World.grownBy.refl _ _,?_,hat,fun val d ps hv=>?_⟩
  ·conv=>rhs;rw [←hwb]
   simp [Instr.mapEntry,run_underlying ht,MapKept.run_getObj_map hb,K.check w false hkey,h1,hj,h3,K.stays w hkey,hsame,MapKept.run_setObj_map _ hb,Result.andThen,setBlock]
  ·obtain ⟨w',hr,ho,_⟩:=h0.update K ht hn hkey hrv
   have h4:=hup e0.val
   rw [hself,hwb] at h4
   rw [run_inj h4 hr];exact ho
  ·obtain ⟨w',hr,ho,_⟩:=h0.update K ht hn hkey hv
   have hidx:es.findIdx? (fun e=>((e.born:Nat):Int)==((e0.born:Nat):Int))=some j:=by
    rw [findIdx_arr]
    exact findIdx_born s2 h2
   have hmod:es.modify j (fun e=>{ e with val:=val })=es.modify j (fun e'=>{ e' with key:=key,val:=val }):=by
    apply Array.ext'
    rw [Array.toList_modify,Array.toList_modify,modify_eq_set _ _ _ _ h2,modify_eq_set _ _ _ _ h2,←h3]
   refine ⟨_,?_,(by rw [run_inj (hup val) hr];exact ho),grownBy_block w hb _⟩
   simp [Instr.entryStore,MapKept.run_getObj_map hb,asInt,asIntOf,goInt,hidx,hmod,MapKept.run_setObj_map _ hb,Result.andThen,setBlock]
end
end Go.Proofs.YtdegffffcbhjbaaGreatDoor
end
section
namespace Go.Proofs.YtdegffffcbhjbaaGreatDoor.Un
open Go.RowKit Go.Maps
theorem laidOut:laidOutB Tryz.prog=true:=by kernel_rfl
theorem keyRow:(154:TypeId) < Tryz.prog.types.size:=of_decide_eq_true (by kernel_rfl)
theorem keyWide:(match Tryz.prog.underlying 154 with | some (.array _ _) | some (.struct _)=>true | _=>false)=true:=by kernel_rfl
theorem keyAt2:Tryz.prog.keyTypeAt 2 154=true:=by kernel_rfl
set_option maxRecDepth 100000 in
theorem keyLaw:Keyed Tryz.prog 154:=Keyed.of_law (deep_law_laid laidOut (m:=2) (by decide) keyRow keyAt2 keyWide)
abbrev aggK (a b c:ByteArray):Value:=.agg #[.string a,.string b,.string c]
def klit (a b c:ByteArray):Lit:=.string (keyBytes [.string a.data.toList,.string b.data.toList,.string c.data.toList])
theorem key_fields:Tryz.prog.underlying 154=some (.struct (Tryz.prog.fieldsOf 154))∧(Tryz.prog.fieldsOf 154).toList.map (fun f=>(f.offset,f.type,f.name != "_"))=[(0,9,true),(1,9,true),(2,9,true)]:=⟨by kernel_rfl,by kernel_rfl⟩
theorem size_two:∃ n,Tryz.prog.types.size+1=n+1+1:=by
 have:Tryz.prog.types.size≠0:=Nat.ne_of_gt (Nat.lt_of_le_of_lt (Nat.zero_le _) keyRow)
 exact ⟨Tryz.prog.types.size - 1,by omega⟩
theorem lits_string (n:Nat) (s:ByteArray) (h:s.size≤maxLen):Tryz.prog.keyLits (n+1) 9 [.string s]=some [.string s.data.toList]:=by
 unfold Program.keyLits
 rw [Tryz.underlying9]
 simp [h]
theorem lits_fields (n:Nat) (a b c:ByteArray) (ha:a.size≤maxLen) (hb:b.size≤maxLen) (hc:c.size≤maxLen):∀ (fs:List Field),fs.map (fun f=>(f.offset,f.type,f.name != "_"))=[(0,9,true),(1,9,true),(2,9,true)] →
 (fs.mapM fun f=>Tryz.prog.keyLits (n+1) f.type (([Value.string a,.string b,.string c].drop f.offset).take (Tryz.prog.cellsOf f.type)))=some [[.string a.data.toList],[.string b.data.toList],[.string c.data.toList]]:=by
 intro fs h
 have hc9:Tryz.prog.cellsOf 9=1:=by kernel_rfl
 obtain ⟨f0,f1,f2,rfl⟩:∃ f0 f1 f2,fs=[f0,f1,f2]:=by
  have hl:fs.length=3:=by simpa using congrArg List.length h
  match fs,hl with
  | [f0,f1,f2],_=>exact ⟨f0,f1,f2,rfl⟩
 simp only [List.map_cons,List.map_nil,List.cons.injEq,Prod.mk.injEq,and_true] at h
 obtain ⟨⟨o0,t0,_⟩,⟨o1,t1,_⟩,⟨o2,t2,_⟩⟩:=h
 simp only [List.mapM_cons,List.mapM_nil,o0,o1,o2,t0,t1,t2,hc9,List.drop_zero,List.drop_succ_cons,List.take_succ_cons,List.take_zero,lits_string n _ ha,lits_string n _ hb,lits_string n _ hc]
 rfl
theorem keyOf_mk (a b c:ByteArray) (ha:a.size≤maxLen) (hb:b.size≤maxLen) (hc:c.size≤maxLen):keyOf Tryz.prog 154 (aggK a b c)=some (klit a b c):=by
 obtain ⟨hu,hf⟩:=key_fields
 have hck:Tryz.prog.cellsOf 154=3:=by kernel_rfl
 have hkt:Tryz.prog.keyType 154=true:=by kernel_rfl
 obtain ⟨n,hn⟩:=size_two
 have hfl:=lits_fields n a b c ha hb hc _ hf
 have hall:(Tryz.prog.fieldsOf 154).all (·.name != "_")=true:=by kernel_rfl
 have hlits:Tryz.prog.keyLits (Tryz.prog.types.size+1) 154 [.string a,.string b,.string c]=some [.string a.data.toList,.string b.data.toList,.string c.data.toList]:=by
  rw [hn]
  unfold Program.keyLits
  rw [hu]
  simp only [hck,List.length_cons,List.length_nil,hall,and_self,if_true]
  rw [hfl]
  rfl
 unfold keyOf
 rw [hu]
 have hfm:(aggK a b c).formed Tryz.prog 154=true:=by simp [Value.formed,hu,hck]
 simp only [hkt,hfm,Bool.and_self,if_true]
 have hcl:(aggK a b c).cells.toList=[.string a,.string b,.string c]:=rfl
 rw [hcl,hlits]
 rfl
theorem klit_inj {a b c a' b' c':ByteArray} (ha:a.size≤maxLen) (hb:b.size≤maxLen) (hc:c.size≤maxLen) (ha':a'.size≤maxLen) (hb':b'.size≤maxLen) (hc':c'.size≤maxLen) (h:klit a b c=klit a' b' c'):a=a'∧b=b'∧c=c':=by
 have h1:=keyOf_mk a b c ha hb hc
 have h2:=keyOf_mk a' b' c' ha' hb' hc'
 rw [←h] at h2
 have:=keyLaw.inj h1 h2
 injection this with e
 injection e with e
 injection e with e0 e
 injection e with e1 e
 injection e with e2 e
 injection e0 with e0
 injection e1 with e1
 injection e2 with e2
 exact ⟨e0,e1,e2⟩
theorem klit_key (a b c:ByteArray):WideAt.IsKeyLit (klit a b c):=trivial
theorem zeroInt (w:World):(zeroValue 3).run Tryz.prog w=.ok (.int .i64 0) w:=by kernel_rfl
end Go.Proofs.YtdegffffcbhjbaaGreatDoor.Un
end
section
namespace Go.Proofs.YtdegffffcbhjbaaGreatDoor.Un
open Go.RowKit
structure Sane (M:Mast):Prop where
 ch:riseL M.chart=true
 fl:Fl.riseF M.flows=true
 en:G.riseK Ent.code M.ents=true
 li:G.riseK Lin.key M.lines=true
 lc:M.chart.length≤60
 lf:M.flows.length≤60
 le:M.ents.length≤60
 ll:M.lines.length≤1000
theorem Sane.zero:Sane zeroM:=⟨rfl,by decide,rfl,rfl,by decide,by decide,by decide,by decide⟩
theorem entE_zero {L:List Ent} {x:Ent} (h:entE L x=0):G.findK Ent.code L x.code=none∧L.length < 60:=by
 unfold entE at h
 cases hf:G.findK Ent.code L x.code with
 | some y=>rw [hf] at h;simp at h
 | none =>
   rw [hf] at h
   simp only [Option.isSome_none,Bool.false_eq_true,if_false] at h
   refine ⟨rfl,?_⟩
   split at h
   ·simp at h
   ·omega
theorem linEr_zero {L:List Lin} {x:Lin} (h:linEr L x=0):G.findK Lin.key L x.key=none∧L.length < 1000:=by
 unfold linEr at h
 cases hf:G.findK Lin.key L x.key with
 | some y=>rw [hf] at h;simp at h
 | none =>
   rw [hf] at h
   simp only [Option.isSome_none,Bool.false_eq_true,if_false] at h
   refine ⟨rfl,?_⟩
   split at h
   ·simp at h
   ·omega
theorem oneE_zero {x:ByteArray} (h:oneE x=0):x=emp:=by
 unfold oneE at h
 split at h
 ·assumption
 ·simp at h
theorem step_ways {M:Mast} {ws:List ByteArray} (h:stepE M ws=0) :
 (wd ws 0=tAccount∧(parseA ws).2=0∧addE M.chart (parseA ws).1=0∧stepV M ws={ M with chart:=insL M.chart (parseA ws).1 }) ∨
 (wd ws 0=Fl.tFlow∧(Fl.parseF ws).2=0∧Fl.addE M.flows (Fl.parseF ws).1=0∧stepV M ws={ M with flows:=insK Fl.Flow.code M.flows (Fl.parseF ws).1 }) ∨
 (formedW ws=true∧wd ws 0=tEntity∧entE M.ents (entOf ws)=0∧stepV M ws={ M with ents:=G.insK Ent.code M.ents (entOf ws) }) ∨
 (formedW ws=true∧wd ws 0=tMap∧linEr M.lines (linOf ws)=0∧stepV M ws={ M with lines:=G.insK Lin.key M.lines (linOf ws) }) ∨
 (formedW ws=true∧wd ws 0=tGroup∧M.cur=emp∧stepV M ws={ M with cur:=wd ws 1 }) ∨
 (formedW ws=true∧wd ws 0=tReserve∧M.res=emp∧stepV M ws={ M with res:=wd ws 1 }) ∨
 (formedW ws=true∧wd ws 0=tDiffer∧M.dif=emp∧stepV M ws={ M with dif:=wd ws 1 }) ∨
 (formedW ws=true∧wd ws 0=tMinor∧M.min=emp∧stepV M ws={ M with min:=wd ws 1 }) ∨
 (formedW ws=true∧wd ws 0=tStake∧M.stk=emp∧stepV M ws={ M with stk:=wd ws 1 }):=by
 unfold stepE at h
 unfold stepV
 by_cases h1:wd ws 0=tAccount
 ·rw [if_pos h1] at h ⊢
  by_cases hp:(parseA ws).2=0
  ·rw [if_pos hp] at h;exact .inl ⟨h1,hp,h,rfl⟩
  ·rw [if_neg hp] at h;exact absurd h hp
 rw [if_neg h1] at h ⊢
 by_cases h2:wd ws 0=Fl.tFlow
 ·rw [if_pos h2] at h ⊢
  by_cases hp:(Fl.parseF ws).2=0
  ·rw [if_pos hp] at h;exact .inr (.inl ⟨h2,hp,h,rfl⟩)
  ·rw [if_neg hp] at h;exact absurd h hp
 rw [if_neg h2] at h ⊢
 cases hf:formedW ws with
 | false=>rw [if_pos hf] at h;simp at h
 | true =>
   rw [if_neg (by rw [hf];simp)] at h
   by_cases h3:wd ws 0=tEntity
   ·rw [if_pos h3] at h ⊢;exact .inr (.inr (.inl ⟨rfl,h3,h,rfl⟩))
   rw [if_neg h3] at h ⊢
   by_cases h4:wd ws 0=tMap
   ·rw [if_pos h4] at h ⊢;exact .inr (.inr (.inr (.inl ⟨rfl,h4,h,rfl⟩)))
   rw [if_neg h4] at h ⊢
   by_cases h5:wd ws 0=tGroup
   ·rw [if_pos h5] at h ⊢;exact .inr (.inr (.inr (.inr (.inl ⟨rfl,h5,oneE_zero h,rfl⟩))))
   rw [if_neg h5] at h ⊢
   by_cases h6:wd ws 0=tReserve
   ·rw [if_pos h6] at h ⊢;exact .inr (.inr (.inr (.inr (.inr (.inl ⟨rfl,h6,oneE_zero h,rfl⟩)))))
   rw [if_neg h6] at h ⊢
   by_cases h7:wd ws 0=tDiffer
   ·rw [if_pos h7] at h ⊢;exact .inr (.inr (.inr (.inr (.inr (.inr (.inl ⟨rfl,h7,oneE_zero h,rfl⟩))))))
   rw [if_neg h7] at h ⊢
   by_cases h8:wd ws 0=tMinor
   ·rw [if_pos h8] at h ⊢;exact .inr (.inr (.inr (.inr (.inr (.inr (.inr (.inl ⟨rfl,h8,oneE_zero h,rfl⟩)))))))
   rw [if_neg h8] at h ⊢
   refine .inr (.inr (.inr (.inr (.inr (.inr (.inr (.inr ⟨rfl,?_,oneE_zero h,rfl⟩)))))))
   unfold formedW at hf
   rw [Bool.and_eq_true,Bool.and_eq_true,decide_eq_true_eq,decide_eq_true_eq] at hf
   have hl:=hf.2.1
   unfold lenW at hl
   by_cases h9:wd ws 0=tStake
   ·exact h9
   ·rw [if_neg (by simp [h5,h6,h7,h8,h9]),if_neg h3,if_neg h4] at hl
    have:=hf.1
    omega
theorem Sane.step {M:Mast} {ws:List ByteArray} (hs:Sane M) (h:stepE M ws=0):Sane (stepV M ws):=by
 rcases step_ways h with ⟨_,_,ha,e⟩ | ⟨_,_,ha,e⟩ | ⟨_,_,ha,e⟩ | ⟨_,_,ha,e⟩ | ⟨_,_,_,e⟩ | ⟨_,_,_,e⟩ | ⟨_,_,_,e⟩ | ⟨_,_,_,e⟩ | ⟨_,_,_,e⟩ <;> rw [e]
 ·obtain ⟨_,h2,h3⟩:=addE_zero ha
  exact ⟨rise_ins _ _ hs.ch h2,hs.fl,hs.en,hs.li,by show (insL _ _).length≤60;rw [insL_length];omega,hs.lf,hs.le,hs.ll⟩
 ·obtain ⟨_,_,_,h3⟩:=Fl.addE_zero (Fl.rise_codes hs.fl) ha
  exact ⟨hs.ch,Fl.rise_ins hs.fl ha,hs.en,hs.li,hs.lc,by show (insK _ _ _).length≤60;rw [insK_length];omega,hs.le,hs.ll⟩
 ·obtain ⟨h2,h3⟩:=entE_zero ha
  exact ⟨hs.ch,hs.fl,G.riseK_ins _ _ hs.en h2,hs.li,hs.lc,hs.lf,by show (G.insK _ _ _).length≤60;rw [G.insK_length];omega,hs.ll⟩
 ·obtain ⟨h2,h3⟩:=linEr_zero ha
  exact ⟨hs.ch,hs.fl,hs.en,G.riseK_ins _ _ hs.li h2,hs.lc,hs.lf,hs.le,by show (G.insK _ _ _).length≤1000;rw [G.insK_length];omega⟩
 all_goals exact ⟨hs.ch,hs.fl,hs.en,hs.li,hs.lc,hs.lf,hs.le,hs.ll⟩
def keyIn (M:Mast) (a b c:ByteArray):Bool :=
 if a=tEntity then (G.findK Ent.code M.ents b).isSome
 else if a=tMap then (G.findK Lin.key M.lines (b,c)).isSome
 else if a=tGroup then decide (M.cur≠emp)
 else if a=tReserve then decide (M.res≠emp)
 else if a=tDiffer then decide (M.dif≠emp)
 else if a=tMinor then decide (M.min≠emp)
 else decide (M.stk≠emp)
def keyB (ws:List ByteArray):ByteArray:=if wd ws 0=tEntity then wd ws 1 else if wd ws 0=tMap then wd ws 1 else emp
def keyC (ws:List ByteArray):ByteArray:=if wd ws 0=tEntity then emp else if wd ws 0=tMap then wd ws 2 else emp
def hadW (M:Mast) (ws:List ByteArray):Bool:=keyIn M (wd ws 0) (keyB ws) (keyC ws)
def keepE (M:Mast) (ws:List ByteArray):Int :=
 if wd ws 0=tEntity then (if 60≤M.ents.length then 4 else 0) else if wd ws 0=tMap then (if 1000≤M.lines.length then 4 else 0) else 0
theorem oneE_eq (x:ByteArray):oneE x=if decide (x≠emp)=true then 7 else 0:=by
 unfold oneE
 by_cases h:x=emp <;> simp [h]
theorem step_formed {M:Mast} {ws:List ByteArray} (h1:wd ws 0≠tAccount) (h2:wd ws 0≠Fl.tFlow) (h3:formedW ws=true):stepE M ws=if hadW M ws=true then 7 else keepE M ws:=by
 unfold stepE hadW keyIn keepE
 rw [if_neg h1,if_neg h2,if_neg (by rw [h3];simp)]
 have t1:tMap≠tEntity:=by decide
 by_cases h4:wd ws 0=tEntity
 ·simp only [if_pos h4]
  unfold entE
  have:keyB ws=(entOf ws).code:=by unfold keyB;rw [if_pos h4];rfl
  rw [this]
 simp only [if_neg h4]
 by_cases h5:wd ws 0=tMap
 ·simp only [if_pos h5]
  unfold linEr
  have:(keyB ws,keyC ws)=(linOf ws).key:=by unfold keyB keyC;rw [if_neg h4,if_pos h5,if_neg h4,if_pos h5];rfl
  rw [this]
 simp only [if_neg h5]
 by_cases h6:wd ws 0=tGroup
 ·simp only [if_pos h6];exact oneE_eq _
 simp only [if_neg h6]
 by_cases h7:wd ws 0=tReserve
 ·simp only [if_pos h7];exact oneE_eq _
 simp only [if_neg h7]
 by_cases h8:wd ws 0=tDiffer
 ·simp only [if_pos h8];exact oneE_eq _
 simp only [if_neg h8]
 by_cases h9:wd ws 0=tMinor
 ·simp only [if_pos h9];exact oneE_eq _
 simp only [if_neg h9];exact oneE_eq _
end Go.Proofs.YtdegffffcbhjbaaGreatDoor.Un
end
section
namespace Go.Proofs.YtdegffffcbhjbaaGreatDoor.Un
open Go.RowKit Go.Maps
theorem nm_size {s:ByteArray} (h:nmB s=true):1≤s.size∧s.size≤12:=by
 unfold nmB nameL at h
 rw [Bool.and_eq_true,Bool.and_eq_true,decide_eq_true_eq,size_list] at h
 exact h.1.1
theorem nm_ne {s:ByteArray} (h:nmB s=true):s≠emp:=by
 intro e
 subst e
 exact absurd h (by decide)
theorem formed_ways {ws:List ByteArray} (h:formedW ws=true) :
 (wd ws 0=tEntity∧(∃ a b,ws=[tEntity,a,b]∧nmB a=true∧nmB b=true)) ∨
 (wd ws 0=tMap∧(∃ a b c,ws=[tMap,a,b,c]∧nmB a=true∧nmB b=true∧nmB c=true)) ∨
 ((wd ws 0=tGroup∨wd ws 0=tReserve∨wd ws 0=tDiffer∨wd ws 0=tMinor∨wd ws 0=tStake)∧(∃ a,ws=[wd ws 0,a]∧nmB a=true)):=by
 unfold formedW at h
 rw [Bool.and_eq_true,Bool.and_eq_true,decide_eq_true_eq,decide_eq_true_eq] at h
 obtain ⟨h0,hl,hn⟩:=h
 have wd0:∀ (a:ByteArray) (r:List ByteArray),wd (a::r) 0=a:=fun a r=>rfl
 unfold lenW at hl
 unfold namesW at hn
 split at hl
 ·rename_i hh
  have:ws.length=2:=by omega
  match ws,this with
  | [x,a],_ =>
    simp at hn
    exact .inr (.inr ⟨hh,a,rfl,hn⟩)
 ·split at hl
  ·rename_i hh
   have:ws.length=3:=by omega
   match ws,this with
   | [x,a,b],_ =>
     simp at hn
     rw [wd0] at hh
     subst hh
     exact .inl ⟨rfl,a,b,rfl,hn⟩
  ·split at hl
   ·rename_i hh
    have:ws.length=4:=by omega
    match ws,this with
    | [x,a,b,c],_ =>
      simp at hn
      rw [wd0] at hh
      subst hh
      exact .inr (.inl ⟨rfl,a,b,c,rfl,hn⟩)
   ·omega
theorem small_len {n:Nat} (h:n≤100):n≤maxLen:=by unfold maxLen;omega
theorem formed_sizes {ws:List ByteArray} (h:formedW ws=true):(wd ws 0).size≤100∧(keyB ws).size≤100∧(keyC ws).size≤100:=by
 have e0:emp.size≤100:=by decide
 rcases formed_ways h with ⟨h0,a,b,rfl,ha,hb⟩ | ⟨h0,a,b,c,rfl,ha,hb,hc⟩ | ⟨h0,a,h1,ha⟩
 ·have:=nm_size ha
  exact ⟨show tEntity.size≤100 by decide,by show a.size≤100;omega,e0⟩
 ·have:=nm_size ha
  have:=nm_size hb
  exact ⟨show tMap.size≤100 by decide,by show a.size≤100;omega,by show b.size≤100;omega⟩
 ·have k1:wd ws 0≠tEntity:=by rcases h0 with h | h | h | h | h <;> rw [h] <;> decide
  have k2:wd ws 0≠tMap:=by rcases h0 with h | h | h | h | h <;> rw [h] <;> decide
  unfold keyB keyC
  rw [if_neg k1,if_neg k2,if_neg k1,if_neg k2]
  exact ⟨by rcases h0 with h | h | h | h | h <;> rw [h] <;> decide,e0,e0⟩
abbrev klW (ws:List ByteArray):Lit:=klit (wd ws 0) (keyB ws) (keyC ws)
theorem klW_inj {ws us:List ByteArray} (h:formedW ws=true) (h':formedW us=true) (e:klW ws=klW us):wd ws 0=wd us 0∧keyB ws=keyB us∧keyC ws=keyC us:=by
 obtain ⟨a,b,c⟩:=formed_sizes h
 obtain ⟨a',b',c'⟩:=formed_sizes h'
 exact klit_inj (small_len a) (small_len b) (small_len c) (small_len a') (small_len b') (small_len c') e
def hadI (M:Mast) (ws:List ByteArray):Int:=if hadW M ws=true then 1 else 0
def StoodOk (D:DataW Unit) (M:Mast):Prop:=∀ ws,formedW ws=true→D.atKey (klW ws) (.lit (.int .i64 0))=.lit (.int .i64 (hadI M ws))
theorem StoodOk.zero:StoodOk (.map []) zeroM:=fun ws h=>by
 have:hadW zeroM ws=false:=by
  unfold hadW keyIn
  rcases formed_ways h with ⟨h0,_⟩ | ⟨h0,_⟩ | ⟨h0,_⟩
  ·rw [h0];rfl
  ·rw [h0];rfl
  ·rcases h0 with h0 | h0 | h0 | h0 | h0 <;> rw [h0] <;> rfl
 unfold hadI
 rw [this]
 rfl
theorem StoodOk.same {D:DataW Unit} {M M':Mast} (h:StoodOk D M) (he:M'.ents=M.ents) (hl:M'.lines=M.lines) (h1:M'.cur=M.cur) (h2:M'.res=M.res) (h3:M'.dif=M.dif) (h4:M'.min=M.min) (h5:M'.stk=M.stk):StoodOk D M':=fun ws hf=>by
 rw [h ws hf]
 unfold hadI hadW keyIn
 rw [he,hl,h1,h2,h3,h4,h5]
theorem StoodOk.step {D:DataW Unit} {M:Mast} {ws:List ByteArray} (h:StoodOk D M) (ht:Tidy D) (hf:formedW ws=true) (hs:stepE M ws=0):StoodOk (D.put (klW ws) (.lit (.int .i64 1))) (stepV M ws):=by
 intro us hu
 by_cases he:klW us=klW ws
 ·rw [he,atKey_put_same ht.isMap (klit_key _ _ _)]
  obtain ⟨e0,e1,e2⟩:=klW_inj hu hf he
  have:hadW (stepV M ws) us=true:=by
   unfold hadW keyIn
   rw [e0,e1,e2]
   have d1:tMap≠tEntity:=by decide
   rcases formed_ways hf with ⟨h0,a,b,rfl,ha,hb⟩ | ⟨h0,a,b,c,rfl,ha,hb,hc⟩ | ⟨h0,a,h1,ha⟩
   ·rcases step_ways hs with ⟨w0,_⟩ | ⟨w0,_⟩ | ⟨_,_,_,ev⟩ | ⟨_,w0,_⟩ | ⟨_,w0,_⟩ | ⟨_,w0,_⟩ | ⟨_,w0,_⟩ | ⟨_,w0,_⟩ | ⟨_,w0,_⟩
    case inr.inr.inl =>
     rw [ev,if_pos h0]
     show (G.findK Ent.code (G.insK Ent.code M.ents ⟨a,b⟩) a).isSome=true
     rw [G.findK_ins _ _ _ (entE_zero (by assumption)).1]
     simp
    all_goals exact absurd (h0.symm.trans w0) (by decide)
   ·rcases step_ways hs with ⟨w0,_⟩ | ⟨w0,_⟩ | ⟨_,w0,_⟩ | ⟨_,_,hz,ev⟩ | ⟨_,w0,_⟩ | ⟨_,w0,_⟩ | ⟨_,w0,_⟩ | ⟨_,w0,_⟩ | ⟨_,w0,_⟩
    case inr.inr.inr.inl =>
     rw [ev,if_neg (by rw [h0];exact d1),if_pos h0]
     show (G.findK Lin.key (G.insK Lin.key M.lines ⟨a,b,c⟩) (a,b)).isSome=true
     rw [G.findK_ins _ (⟨a,b,c⟩:Lin) _ (linEr_zero (x:=⟨a,b,c⟩) hz).1]
     simp [Lin.key]
    all_goals exact absurd (h0.symm.trans w0) (by decide)
   ·have ha1:wd ws 1=a:=by rw [h1];rfl
    have hne:wd ws 1≠emp:=by rw [ha1];exact nm_ne ha
    rcases step_ways hs with ⟨w0,_⟩ | ⟨w0,_⟩ | ⟨_,w0,_⟩ | ⟨_,w0,_⟩ | ⟨_,w0,_,ev⟩ | ⟨_,w0,_,ev⟩ | ⟨_,w0,_,ev⟩ | ⟨_,w0,_,ev⟩ | ⟨_,w0,_,ev⟩
    all_goals first
     | (rw [ev,w0];exact decide_eq_true hne)
     | (rcases h0 with h0 | h0 | h0 | h0 | h0 <;> exact absurd (h0.symm.trans w0) (by decide))
  unfold hadI
  rw [this]
  rfl
 ·rw [atKey_put_other he,h us hu]
  have:hadW (stepV M ws) us=hadW M us:=by
   unfold hadW keyIn
   rcases step_ways hs with ⟨w0,_,_,ev⟩ | ⟨w0,_,_,ev⟩ | ⟨_,w0,hz,ev⟩ | ⟨_,w0,hz,ev⟩ | ⟨_,w0,_,ev⟩ | ⟨_,w0,_,ev⟩ | ⟨_,w0,_,ev⟩ | ⟨_,w0,_,ev⟩ | ⟨_,w0,_,ev⟩
   ·rw [ev]
   ·rw [ev]
   ·rw [ev]
    by_cases hu0:wd us 0=tEntity
    ·rw [if_pos hu0,if_pos hu0]
     show (G.findK Ent.code (G.insK Ent.code M.ents (entOf ws)) (keyB us)).isSome=_
     rw [G.findK_ins _ _ _ (entE_zero hz).1,if_neg]
     intro e
     apply he
     unfold klW
     rw [hu0,w0]
     have:keyB ws=(entOf ws).code:=by unfold keyB;rw [if_pos w0];rfl
     rw [this,e]
     unfold keyC
     rw [if_pos hu0,if_pos w0]
    ·rw [if_neg hu0,if_neg hu0]
   ·rw [ev]
    have d1:tMap≠tEntity:=by decide
    by_cases hu0:wd us 0=tMap
    ·rw [if_neg (by rw [hu0];exact d1),if_pos hu0,if_neg (by rw [hu0];exact d1),if_pos hu0]
     show (G.findK Lin.key (G.insK Lin.key M.lines (linOf ws)) (keyB us,keyC us)).isSome=_
     rw [G.findK_ins _ _ _ (linEr_zero hz).1,if_neg]
     intro e
     apply he
     unfold klW
     rw [hu0,w0]
     have:(keyB ws,keyC ws)=(linOf ws).key:=by
      unfold keyB keyC
      rw [if_neg (by rw [w0];exact d1),if_pos w0,if_neg (by rw [w0];exact d1),if_pos w0];rfl
     rw [←this] at e
     rw [Prod.mk.injEq] at e
     rw [e.1,e.2]
    ·rw [if_neg hu0,if_neg hu0]
   all_goals
    rw [ev]
    have k1:wd us 0≠wd ws 0:=fun e=>he (by
     unfold klW
     have hk:∀ xs:List ByteArray,wd xs 0=wd ws 0→keyB xs=emp∧keyC xs=emp:=fun xs hx=>by
      unfold keyB keyC
      rw [hx,w0,if_neg (by decide),if_neg (by decide),if_neg (by decide),if_neg (by decide)]
      exact ⟨rfl,rfl⟩
     rw [e,(hk us e).1,(hk us e).2,(hk ws rfl).1,(hk ws rfl).2])
    rw [w0] at k1
    rcases formed_ways hu with ⟨u0,_⟩ | ⟨u0,_⟩ | ⟨u0 | u0 | u0 | u0 | u0,_⟩ <;> rw [u0] at k1 ⊢ <;> first | rfl | exact absurd rfl k1
  unfold hadI
  rw [this]
end Go.Proofs.YtdegffffcbhjbaaGreatDoor.Un
end
section
namespace Go.Proofs
open Go.Shelf
def Tryz.laysC174_ren:Go.Shelf.Ren:=⟨fun | 174=>156 | 247=>174 | 245=>175 | 287=>183 | 279=>184 | 280=>185 | 281=>186 | 282=>187 | 321=>193 | 322=>194 | 316=>195 | 171=>197 | 205=>196 | 243=>198 | 246=>199 | 283=>200 | 284=>201 | 285=>202 | 286=>203 | 129=>205 | 317=>204 | 318=>206 | 319=>207 | 320=>208 | 337=>209 | 338=>210 | n=>n,fun | 9=>9 | 3=>3 | 2=>2 | 75=>254 | 85=>255 | 4=>4 | 167=>275 | 5=>5 | 53=>276 | 175=>277 | 46=>158 | 168=>279 | 37=>118 | 0=>0 | 210=>288 | 21=>21 | 127=>291 | 145=>294 | 143=>292 | 171=>296 | 173=>299 | 212=>302 | 51=>272 | 20=>20 | 213=>303 | 232=>306 | 233=>307 | 80=>308 | n=>n,fun | 15=>3 | 16=>4 | 17=>5 | 18=>6 | 19=>7 | n=>n⟩
theorem Tryz.laysC174:Go.Proofs.LaysC.n174 Tryz.prog Tryz.laysC174_ren:={
 mixed:=by kernel_rfl
 f129:=Tryz.func205.trans (congrArg some (by kernel_rfl))
 f171:=Tryz.func197.trans (congrArg some (by kernel_rfl))
 f174:=Tryz.func156.trans (congrArg some (by kernel_rfl))
 f205:=Tryz.func196.trans (congrArg some (by kernel_rfl))
 f243:=Tryz.func198.trans (congrArg some (by kernel_rfl))
 f245:=Tryz.func175.trans (congrArg some (by kernel_rfl))
 f246:=Tryz.func199.trans (congrArg some (by kernel_rfl))
 f247:=Tryz.func174.trans (congrArg some (by kernel_rfl))
 f279:=Tryz.func184.trans (congrArg some (by kernel_rfl))
 f280:=Tryz.func185.trans (congrArg some (by kernel_rfl))
 f281:=Tryz.func186.trans (congrArg some (by kernel_rfl))
 f282:=Tryz.func187.trans (congrArg some (by kernel_rfl))
 f283:=Tryz.func200.trans (congrArg some (by kernel_rfl))
 f284:=Tryz.func201.trans (congrArg some (by kernel_rfl))
 f285:=Tryz.func202.trans (congrArg some (by kernel_rfl))
 f286:=Tryz.func203.trans (congrArg some (by kernel_rfl))
 f287:=Tryz.func183.trans (congrArg some (by kernel_rfl))
 f316:=Tryz.func195.trans (congrArg some (by kernel_rfl))
 f317:=Tryz.func204.trans (congrArg some (by kernel_rfl))
 f318:=Tryz.func206.trans (congrArg some (by kernel_rfl))
 f319:=Tryz.func207.trans (congrArg some (by kernel_rfl))
 f320:=Tryz.func208.trans (congrArg some (by kernel_rfl))
 f321:=Tryz.func193.trans (congrArg some (by kernel_rfl))
 f322:=Tryz.func194.trans (congrArg some (by kernel_rfl))
 f337:=Tryz.func209.trans (congrArg some (by kernel_rfl))
 f338:=Tryz.func210.trans (congrArg some (by kernel_rfl))
 t0:=Tryz.underlying0
 a0:=Tryz.isAgg0
 z0:=Tryz.sizeOf0
 v0:=Tryz.zeroValue0
 t2:=Tryz.underlying2
 a2:=Tryz.isAgg2
 z2:=Tryz.sizeOf2
 v2:=Tryz.zeroValue2
 t3:=Tryz.underlying3
 a3:=Tryz.isAgg3
 z3:=Tryz.sizeOf3
 v3:=Tryz.zeroValue3
 t4:=Tryz.underlying4
 a4:=Tryz.isAgg4
 z4:=Tryz.sizeOf4
 v4:=Tryz.zeroValue4
 t5:=Tryz.underlying5
 a5:=Tryz.isAgg5
 z5:=Tryz.sizeOf5
 v5:=Tryz.zeroValue5
 t9:=Tryz.underlying9
 a9:=Tryz.isAgg9
 z9:=Tryz.sizeOf9
 v9:=Tryz.zeroValue9
 t20:=Tryz.underlying20
 a20:=Tryz.isAgg20
 z20:=Tryz.sizeOf20
 v20:=Tryz.zeroValue20
 t21:=Tryz.underlying21
 a21:=Tryz.isAgg21
 z21:=Tryz.sizeOf21
 v21:=Tryz.zeroValue21
 t37:=Tryz.underlying118
 a37:=Tryz.isAgg118
 z37:=Tryz.sizeOf118
 v37:=Tryz.zeroValue118
 t46:=Tryz.underlying158
 a46:=Tryz.isAgg158
 z46:=Tryz.sizeOf158
 v46:=Tryz.zeroValue158
 t51:=Tryz.underlying272
 a51:=Tryz.isAgg272
 z51:=Tryz.sizeOf272
 v51:=Tryz.zeroValue272
 t53:=Tryz.underlying276
 a53:=Tryz.isAgg276
 z53:=Tryz.sizeOf276
 v53:=Tryz.zeroValue276
 t75:=Tryz.underlying254
 a75:=Tryz.isAgg254
 z75:=Tryz.sizeOf254
 v75:=Tryz.zeroValue254
 t85:=Tryz.underlying255
 a85:=Tryz.isAgg255
 z85:=Tryz.sizeOf255
 v85:=Tryz.zeroValue255
 t127:=Tryz.underlying291
 a127:=Tryz.isAgg291
 z127:=Tryz.sizeOf291
 v127:=Tryz.zeroValue291
 t143:=Tryz.underlying292
 a143:=Tryz.isAgg292
 z143:=Tryz.sizeOf292
 v143:=Tryz.zeroValue292
 t145:=Tryz.underlying294
 a145:=Tryz.isAgg294
 z145:=Tryz.sizeOf294
 v145:=Tryz.zeroValue294
 t167:=Tryz.underlying275
 a167:=Tryz.isAgg275
 z167:=Tryz.sizeOf275
 v167:=Tryz.zeroValue275
 t168:=Tryz.underlying279
 a168:=Tryz.isAgg279
 z168:=Tryz.sizeOf279
 v168:=Tryz.zeroValue279
 t171:=Tryz.underlying296
 a171:=Tryz.isAgg296
 z171:=Tryz.sizeOf296
 v171:=Tryz.zeroValue296
 t173:=Tryz.underlying299
 a173:=Tryz.isAgg299
 z173:=Tryz.sizeOf299
 v173:=Tryz.zeroValue299
 t175:=Tryz.underlying277
 a175:=Tryz.isAgg277
 z175:=Tryz.sizeOf277
 v175:=Tryz.zeroValue277
 t210:=Tryz.underlying288
 a210:=Tryz.isAgg288
 z210:=Tryz.sizeOf288
 v210:=Tryz.zeroValue288
 t212:=Tryz.underlying302
 a212:=Tryz.isAgg302
 z212:=Tryz.sizeOf302
 v212:=Tryz.zeroValue302
 t213:=Tryz.underlying303
 a213:=Tryz.isAgg303
 z213:=Tryz.sizeOf303
 t232:=Tryz.underlying306
 a232:=Tryz.isAgg306
 z232:=Tryz.sizeOf306
 v232:=Tryz.zeroValue306
 t233:=Tryz.underlying307
 a233:=Tryz.isAgg307
 z233:=Tryz.sizeOf307
 v233:=Tryz.zeroValue307
 g15:=by kernel_rfl
 g16:=by kernel_rfl
 g17:=by kernel_rfl
 g18:=by kernel_rfl
 g19:=by kernel_rfl
 t80:=Tryz.underlying308
 a80:=Tryz.isAgg308
 z80:=Tryz.sizeOf308
 v80:=Tryz.zeroValue308
 i0:=by kernel_rfl
 i2:=by kernel_rfl
 i3:=by kernel_rfl
 i4:=by kernel_rfl
 i5:=by kernel_rfl
 i9:=by kernel_rfl
 i20:=by kernel_rfl
 i21:=by kernel_rfl
 i37:=by kernel_rfl
 i46:=by kernel_rfl
 i51:=by kernel_rfl
 i53:=by kernel_rfl
 i75:=by kernel_rfl
 i80:=by kernel_rfl
 i85:=by kernel_rfl
 i127:=by kernel_rfl
 i143:=by kernel_rfl
 i145:=by kernel_rfl
 i167:=by kernel_rfl
 i168:=by kernel_rfl
 i171:=by kernel_rfl
 i173:=by kernel_rfl
 i175:=by kernel_rfl
 i210:=by kernel_rfl
 i212:=by kernel_rfl
 i232:=by kernel_rfl
 i233:=by kernel_rfl
 m15:=by kernel_rfl
 m16:=by kernel_rfl
 m17:=by kernel_rfl
 m18:=by kernel_rfl
 m19:=by kernel_rfl
 c0:=by kernel_rfl
 c2:=by kernel_rfl
 c3:=by kernel_rfl
 c4:=by kernel_rfl
 c5:=by kernel_rfl
 c9:=by kernel_rfl
 c20:=by kernel_rfl
 c21:=by kernel_rfl
 c37:=by kernel_rfl
 c46:=by kernel_rfl
 c51:=by kernel_rfl
 c53:=by kernel_rfl
 c75:=by kernel_rfl
 c80:=by kernel_rfl
 c85:=by kernel_rfl
 c127:=by kernel_rfl
 c143:=by kernel_rfl
 c145:=by kernel_rfl
 c167:=by kernel_rfl
 c168:=by kernel_rfl
 c171:=by kernel_rfl
 c173:=by kernel_rfl
 c175:=by kernel_rfl
 c210:=by kernel_rfl
 c212:=by kernel_rfl
 c213:=by kernel_rfl
 c232:=by kernel_rfl
 c233:=by kernel_rfl }
open Go.RowKit in
theorem Tryz.strconv_ParseInt_10_at64_ok (s:ByteArray) (hmax:s.size≤9223372036854775806) (v:Int) (h:Lib.parseIntB 64 s.data.toList=.ok v) (w:World) :
 Calls Tryz.prog 156 #[.string s,.int .i64 10,.int .i64 64] w fun e w'=>e=.returned (.tuple #[.int .i64 v,.nilIface])∧(w'=w∨∃ t,w'=Lib.bytesWorld w 5 t):=Any.strconv_ParseInt_10_at64_ok Tryz.laysC174 s hmax v h w
open Go.RowKit in
theorem Tryz.strconv_ParseInt_10_at64_range_var (s:ByteArray) (hlim:s.size≤281474976710656) (h:Lib.parseIntB 64 s.data.toList=.range) (tp:TypeId) (p:Value) (w:World) (hvar:w.var? Tryz.prog "strconv.ErrRange"=some #[.iface tp p]) :
 Calls Tryz.prog 156 #[.string s,.int .i64 10,.int .i64 64] w fun e w'=>∃ N,e=.returned (.tuple #[.int .i64 (Lib.intSat 64 s.data.toList),.iface 279 (.pointer (some ⟨N,0,none⟩))])∧w.heap.size≤N∧w'.heap[N]?=some (.cells #[.string ⟨#[80,97,114,115,101,73,110,116]⟩,.string s,.iface tp p] 288 (0,0))∧Below w.heap.size w w':=Any.strconv_ParseInt_10_at64_range_var Tryz.laysC174 s hlim h tp p w hvar
def Tryz.lays219_ren:Go.Shelf.Ren:=⟨fun | 219=>154 | 217=>169 | 225=>170 | 224=>171 | 267=>172 | 266=>181 | 314=>182 | n=>n,fun | 9=>9 | 3=>3 | 4=>4 | 5=>5 | 46=>158 | 146=>273 | 51=>272 | n=>n,fun | 1=>0 | n=>n⟩
theorem Tryz.lays219:Go.Proofs.Lays.n219 Tryz.prog Tryz.lays219_ren:={
 mixed:=by kernel_rfl
 f217:=Tryz.func169.trans (congrArg some (by kernel_rfl))
 f219:=Tryz.func154.trans (congrArg some (by kernel_rfl))
 f224:=Tryz.func171.trans (congrArg some (by kernel_rfl))
 f225:=Tryz.func170.trans (congrArg some (by kernel_rfl))
 f266:=Tryz.func181.trans (congrArg some (by kernel_rfl))
 f267:=Tryz.func172.trans (congrArg some (by kernel_rfl))
 f314:=Tryz.func182.trans (congrArg some (by kernel_rfl))
 t3:=Tryz.underlying3
 a3:=Tryz.isAgg3
 z3:=Tryz.sizeOf3
 v3:=Tryz.zeroValue3
 t4:=Tryz.underlying4
 a4:=Tryz.isAgg4
 z4:=Tryz.sizeOf4
 v4:=Tryz.zeroValue4
 t5:=Tryz.underlying5
 a5:=Tryz.isAgg5
 z5:=Tryz.sizeOf5
 v5:=Tryz.zeroValue5
 t9:=Tryz.underlying9
 a9:=Tryz.isAgg9
 z9:=Tryz.sizeOf9
 v9:=Tryz.zeroValue9
 t46:=Tryz.underlying158
 a46:=Tryz.isAgg158
 z46:=Tryz.sizeOf158
 v46:=Tryz.zeroValue158
 t51:=Tryz.underlying272
 a51:=Tryz.isAgg272
 z51:=Tryz.sizeOf272
 v51:=Tryz.zeroValue272
 t146:=Tryz.underlying273
 a146:=Tryz.isAgg273
 z146:=Tryz.sizeOf273
 v146:=Tryz.zeroValue273
 g1:=by kernel_rfl }
open Go.RowKit Go.Lib in
theorem Tryz.stringslite_Index_one (s:ByteArray) (c:UInt8) (w:World) :
 Calls Tryz.prog 154 #[.string s,.string ⟨#[c]⟩] w fun e w'=>e=.returned (.int .i64 (Lib.indexByte s.data.toList c))∧w'=w:=Any.stringslite_Index_one Tryz.lays219 s c w
def Tryz.lays229_ren:Go.Shelf.Ren:=⟨fun | 229=>82 | n=>n,fun | 9=>9 | 40=>175 | 31=>67 | 152=>227 | 3=>3 | 0=>0 | 4=>4 | 21=>21 | 154=>229 | n=>n,fun | n=>n⟩
theorem Tryz.lays229:Go.Proofs.Lays.n229 Tryz.prog Tryz.lays229_ren:={
 mixed:=by kernel_rfl
 f229:=Tryz.func82.trans (congrArg some (by kernel_rfl))
 t0:=Tryz.underlying0
 a0:=Tryz.isAgg0
 z0:=Tryz.sizeOf0
 v0:=Tryz.zeroValue0
 t3:=Tryz.underlying3
 a3:=Tryz.isAgg3
 z3:=Tryz.sizeOf3
 v3:=Tryz.zeroValue3
 t4:=Tryz.underlying4
 a4:=Tryz.isAgg4
 z4:=Tryz.sizeOf4
 v4:=Tryz.zeroValue4
 t9:=Tryz.underlying9
 a9:=Tryz.isAgg9
 z9:=Tryz.sizeOf9
 v9:=Tryz.zeroValue9
 t21:=Tryz.underlying21
 a21:=Tryz.isAgg21
 z21:=Tryz.sizeOf21
 v21:=Tryz.zeroValue21
 t31:=Tryz.underlying67
 a31:=Tryz.isAgg67
 z31:=Tryz.sizeOf67
 v31:=Tryz.zeroValue67
 t40:=Tryz.underlying175
 a40:=Tryz.isAgg175
 z40:=Tryz.sizeOf175
 v40:=Tryz.zeroValue175
 t152:=Tryz.underlying227
 a152:=Tryz.isAgg227
 z152:=Tryz.sizeOf227
 v152:=Tryz.zeroValue227
 t154:=Tryz.underlying229
 a154:=Tryz.isAgg229
 z154:=Tryz.sizeOf229
 v154:=Tryz.zeroValue229 }
open Go.RowKit Go.Lib in
theorem Tryz.strings_FieldsFunc_runes (g:Nat) (lb:Array Value) (eg:∀ args w,(callFunc g args).run Tryz.prog w=.ok (.enter g args) w) (p:Nat→Bool) (s:ByteArray) (w:World) (hs:s.size≤4294967296) (hp:PredAtRunes Tryz.prog g lb p w) :
 Calls Tryz.prog 82 #[.string s,.func (.func g) #[] lb] w fun e w'=>∃ A,e=.returned (.slice (some ⟨A,0,none⟩) (Lib.goFieldsP p s).length (Lib.goFieldsP p s).length)∧w.heap.size≤A ∧
  w'.ownsRow w.heap.size 9 1 (.slice (some ⟨A,0,none⟩) (Lib.goFieldsP p s).length (Lib.goFieldsP p s).length) (Lib.goFieldsP p s).length ((Lib.goFieldsP p s).map Value.string)∧Below w.heap.size w w':=Any.strings_FieldsFunc_runes Tryz.lays229 g lb eg p s w hs hp (by kernel_rfl) (by kernel_rfl)
end Go.Proofs
end
section
namespace Go.Proofs.YtdegffffcbhjbaaGreatDoor
open Go.RowKit
def lineL (ws:List ByteArray):List UInt8:=Lib.join (ws.map (·.data.toList)) [32]
end Go.Proofs.YtdegffffcbhjbaaGreatDoor
end
section
namespace Go.Proofs.YtdegffffcbhjbaaGreatDoor
def rwB (c:UInt8):Bool:=decide (33≤c.toNat∧c.toNat≤126∧c.toNat≠35)
def rightL (l:List UInt8):Bool:=decide (l≠[]) && l.all rwB
def openF (ws:List (List UInt8)) (r:List UInt8):List (List UInt8):=match ws.getLast? with
 | none=>fieldsGo [] r
 | some x=>ws.dropLast++fieldsGo x r
theorem openF_nil (r:List UInt8):openF [] r=fieldsGo [] r:=rfl
theorem openF_snoc (ws:List (List UInt8)) (x r:List UInt8):openF (ws++[x]) r=ws++fieldsGo x r:=by simp [openF]
structure PartOf (U:List UInt8) (ws:List (List UInt8)):Prop where
 ok:okL U=true
 n10:(10:UInt8) ∉ U
 n35:(35:UInt8) ∉ U
 ne:∀ x∈ws,x≠[]
 fl:∀ r,fieldsGo [] (U++r)=openF ws r
structure GapPart (U:List UInt8) (ws:List (List UInt8)):Prop where
 ok:okL U=true
 n10:(10:UInt8) ∉ U
 n35:(35:UInt8) ∉ U
 ne:∀ x∈ws,x≠[]
 fl:∀ r,fieldsGo [] (U++r)=ws++fieldsGo [] r
theorem okL_add (a b:List UInt8):okL (a++b)=(okL a && okL b):=by simp [okL]
theorem gap_facts {g:List UInt8} (h:g.all gapB=true):okL g=true∧(10:UInt8) ∉ g∧(35:UInt8) ∉ g:=by
 have h1:=List.all_eq_true.1 h
 refine ⟨List.all_eq_true.2 fun c hc=>?_,fun hm=>?_,fun hm=>?_⟩
 ·have:=h1 c hc
  unfold gapB at this
  rw [Bool.or_eq_true,beq_iff_eq,beq_iff_eq] at this
  rcases this with rfl | rfl <;> decide
 ·have:=h1 _ hm;revert this;decide
 ·have:=h1 _ hm;revert this;decide
theorem right_facts {x:List UInt8} (h:rightL x=true):x≠[]∧okL x=true∧(10:UInt8) ∉ x∧(35:UInt8) ∉ x∧x.all (fun c=>!gapB c)=true:=by
 unfold rightL at h
 rw [Bool.and_eq_true] at h
 have h0:=of_decide_eq_true h.1
 have h1:=List.all_eq_true.1 h.2
 refine ⟨h0,List.all_eq_true.2 fun c hc=>?_,fun hm=>?_,fun hm=>?_,List.all_eq_true.2 fun c hc=>?_⟩
 ·have:=of_decide_eq_true (h1 c hc)
  unfold okB
  rw [Bool.or_eq_true,Bool.and_eq_true]
  exact .inr ⟨decide_eq_true (by omega),decide_eq_true (by omega)⟩
 ·have:=h1 _ hm;revert this;decide
 ·have:=h1 _ hm;revert this;decide
 ·have:=of_decide_eq_true (h1 c hc)
  have h9:c≠9:=fun e=>by subst e;revert this;decide
  have h32:c≠32:=fun e=>by subst e;revert this;decide
  simp [gapB,h9,h32]
theorem part_start {g:List UInt8} (h:g.all gapB=true):PartOf g []:=by
 obtain ⟨h1,h2,h3⟩:=gap_facts h
 exact ⟨h1,h2,h3,(fun x hx=>by cases hx),fun r=>by rw [fieldsGo_gap0 g r h,openF_nil]⟩
theorem PartOf.gap0 {U:List UInt8} (h:PartOf U []):GapPart U []:=⟨h.ok,h.n10,h.n35,h.ne,fun r=>by rw [h.fl,openF_nil];rfl⟩
theorem PartOf.gap {U g:List UInt8} {ws:List (List UInt8)} (h:PartOf U ws) (hw:ws≠[]) (hg:g.all gapB=true) (hg0:g≠[]):GapPart (U++g) ws:=by
 obtain ⟨h1,h2,h3⟩:=gap_facts hg
 refine ⟨by rw [okL_add,h.ok,h1];rfl,by simp [h.n10,h2],by simp [h.n35,h3],h.ne,fun r=>?_⟩
 obtain ⟨ws',x,rfl⟩:∃ ws' x,ws=ws'++[x]:=⟨ws.dropLast,ws.getLast hw,(List.dropLast_concat_getLast hw).symm⟩
 rw [List.append_assoc,h.fl,openF_snoc,fieldsGo_gap x g r hg0 (h.ne x (by simp)) hg]
 simp
theorem GapPart.word {U x:List UInt8} {ws:List (List UInt8)} (h:GapPart U ws) (hx:rightL x=true):PartOf (U++x) (ws++[x]):=by
 obtain ⟨h0,h1,h2,h3,h4⟩:=right_facts hx
 refine ⟨by rw [okL_add,h.ok,h1];rfl,by simp [h.n10,h2],by simp [h.n35,h3],fun y hy=>?_,fun r=>?_⟩
 ·rcases List.mem_append.1 hy with hy | hy
  ·exact h.ne y hy
  ·simp at hy;subst hy;exact h0
 ·rw [List.append_assoc,h.fl,fieldsGo_word [] x r h4,openF_snoc];rfl
theorem PartOf.closed {U:List UInt8} {ws:List (List UInt8)} (h:PartOf U ws):fieldsGo [] U=ws∧fieldsGo [] (U++[32])=ws:=by
 by_cases hw:ws=[]
 ·subst hw
  have h1:=h.fl []
  have h2:=h.fl [32]
  rw [List.append_nil] at h1
  rw [h1,h2]
  exact ⟨rfl,rfl⟩
 ·obtain ⟨ws',x,rfl⟩:∃ ws' x,ws=ws'++[x]:=⟨ws.dropLast,ws.getLast hw,(List.dropLast_concat_getLast hw).symm⟩
  have h0:=h.ne x (by simp)
  have h1:=h.fl []
  have h2:=h.fl [32]
  rw [List.append_nil] at h1
  rw [h1,h2,openF_snoc,openF_snoc]
  have e1:fieldsGo x []=[x]:=by simp [fieldsGo,h0]
  have e2:fieldsGo x [32]=[x]:=by simp [fieldsGo,h0,gapB]
  rw [e1,e2]
  exact ⟨rfl,rfl⟩
def Rem (r:List UInt8):Prop:=r=[]∨r=[32,35,32,97,32,114,101,109,97,114,107]∨r=[35]
def End (e:List UInt8):Prop:=e=[10]∨e=[10,10]∨e=[10,35,10]
theorem rem_words {U r:List UInt8} {ws:List (List UInt8)} (h:PartOf U ws) (hr:Rem r):wordsL (U++r)=ws∧okL (U++r)=true∧(10:UInt8) ∉ U++r:=by
 obtain ⟨c1,c2⟩:=h.closed
 unfold wordsL
 rcases hr with rfl | rfl | rfl
 ·rw [List.append_nil]
  exact ⟨by rw [said_none U h.n35];exact c1,h.ok,h.n10⟩
 ·refine ⟨?_,by rw [okL_add,h.ok];decide,by simp [h.n10]⟩
  have e:U++[32,35,32,97,32,114,101,109,97,114,107]=(U++[32])++35::[32,97,32,114,101,109,97,114,107]:=by simp
  rw [e,said_mark (U++[32]) _ (by simp [h.n35])]
  exact c2
 ·refine ⟨?_,by rw [okL_add,h.ok];decide,by simp [h.n10]⟩
  rw [said_mark U [] h.n35]
  exact c1
def lineOf (n:Nat) (ws:List (List UInt8)):List (Nat × List (List UInt8)):=if ws=[] then [] else [(n,ws)]
theorem numP_lineOf (n:Nat) (x:List UInt8) (r:List (Nat × List UInt8)):numP ((n,x)::r)=lineOf n (wordsL x)++numP r:=by simp [numP,lineOf]
theorem block_lines {U r e:List UInt8} {ws:List (List UInt8)} (h:PartOf U ws) (hr:Rem r) (he:End e) :
 okL (U++r++e)=true∧∀ t n,∃ m,n < m∧numP (enumL n (linesGo [] (U++r++e++t)))=lineOf n ws++numP (enumL m (linesGo [] t)):=by
 obtain ⟨h1,h2,h3⟩:=rem_words h hr
 have w0:wordsL []=[]:=rfl
 have w1:wordsL [35]=[]:=rfl
 have l0:∀ n,lineOf n []=[]:=fun n=>rfl
 refine ⟨by rw [okL_add,h2];rcases he with rfl | rfl | rfl <;> decide,fun t n=>?_⟩
 rcases he with rfl | rfl | rfl
 ·refine ⟨n+1,by omega,?_⟩
  rw [show U++r++[10]++t=(U++r)++10::t by simp,linesGo_cut _ _ h3]
  simp only [enumL]
  rw [numP_lineOf,h1]
 ·refine ⟨n+1+1,by omega,?_⟩
  rw [show U++r++[10,10]++t=(U++r)++10::([]++10::t) by simp,linesGo_cut _ _ h3,linesGo_cut [] t (by simp)]
  simp only [enumL]
  rw [numP_lineOf,numP_lineOf,h1,w0,l0]
  simp
 ·refine ⟨n+1+1,by omega,?_⟩
  rw [show U++r++[10,35,10]++t=(U++r)++10::([35]++10::t) by simp,linesGo_cut _ _ h3,linesGo_cut [35] t (by decide)]
  simp only [enumL]
  rw [numP_lineOf,numP_lineOf,h1,w1,l0]
  simp
def Inc (n:Nat):List (Nat × List (List UInt8))→Nat→Prop
 | [],m=>n≤m
 | x::r,m=>n≤x.1∧Inc (x.1+1) r m
theorem Inc.more {n m m':Nat} {L:List (Nat × List (List UInt8))} (h:Inc n L m) (hm:m≤m'):Inc n L m':=by
 induction L generalizing n with
 | nil=>exact Nat.le_trans h hm
 | cons x r ih=>exact ⟨h.1,ih h.2⟩
theorem Inc.snoc {n m q m':Nat} {L:List (Nat × List (List UInt8))} (h:Inc n L m) (hq:m≤q) (hm:q < m') (ws:List (List UInt8)):Inc n (L++[(q,ws)]) m':=by
 induction L generalizing n with
 | nil=>exact ⟨Nat.le_trans h hq,hm⟩
 | cons x r ih=>exact ⟨h.1,ih h.2⟩
def Blocks (T:List UInt8) (out:List (List (List UInt8))):Prop :=
 okL T=true∧∀ t n,∃ m NL,numP (enumL n (linesGo [] (T++t)))=NL++numP (enumL m (linesGo [] t))∧NL.map (·.2)=out∧Inc n NL m
theorem blocks_nil:Blocks [] []:=⟨rfl,fun _ n=>⟨n,[],rfl,rfl,Nat.le_refl n⟩⟩
theorem Blocks.snoc {T U r e:List UInt8} {out:List (List (List UInt8))} {ws:List (List UInt8)} (h:Blocks T out) (hU:PartOf U ws) (hr:Rem r) (he:End e) :
 Blocks (T++(U++r++e)) (out++if ws=[] then [] else [ws]):=by
 obtain ⟨o1,f1⟩:=block_lines hU hr he
 refine ⟨by rw [okL_add,h.1,o1];rfl,fun t n=>?_⟩
 obtain ⟨m,NL,e1,e2,e3⟩:=h.2 (U++r++e++t) n
 obtain ⟨m',hm,e4⟩:=f1 t m
 refine ⟨m',NL++lineOf m ws,?_,?_,?_⟩
 ·rw [show T++(U++r++e)++t=T++(U++r++e++t) by simp,e1,e4];simp
 ·unfold lineOf
  rw [List.map_append,e2]
  split <;> simp_all
 ·unfold lineOf
  split
  ·rw [List.append_nil];exact e3.more (by omega)
  ·exact e3.snoc (Nat.le_refl _) hm ws
theorem Blocks.lines {T:List UInt8} {out:List (List (List UInt8))} (h:Blocks T out):∃ m,(linesL T).map (·.2)=out∧Inc 1 (linesL T) m:=by
 obtain ⟨m,NL,e1,e2,e3⟩:=h.2 [] 1
 have e0:numP (enumL m (linesGo [] []))=[]:=rfl
 rw [List.append_nil,e0,List.append_nil] at e1
 refine ⟨m,?_,?_⟩
 ·unfold linesL;rw [e1];exact e2
 ·unfold linesL;rw [e1];exact e3
end Go.Proofs.YtdegffffcbhjbaaGreatDoor
end
section
namespace Go.Proofs.YtdegffffcbhjbaaGreatDoor.Un
open Go.RowKit
def szW (ws:List ByteArray):Nat:=(lineL ws).length+1
def szL (l:List (List ByteArray)):Nat:=(l.map szW).sum
def szB (ws:List (List UInt8)):Nat:=(ws.map fun x=>x.length+1).sum
theorem lineL_two (x y:ByteArray) (r:List ByteArray):lineL (x::y::r)=x.data.toList++([32]++lineL (y::r)):=by simp [lineL,Lib.join,List.intercalate]
theorem lineL_one (x:ByteArray):lineL [x]=x.data.toList:=by simp [lineL,Lib.join,List.intercalate]
theorem szW_mk:∀ (ws:List (List UInt8)),ws≠[]→szW (ws.map mkB)=szB ws
 | [],h=>absurd rfl h
 | [x],_=>by simp [szW,szB,lineL_one,mkB_data]
 | x::y::r,_=>by
   have ih:=szW_mk (y::r) (by simp)
   unfold szW at ih ⊢
   have e:szB (x::y::r)=x.length+1+szB (y::r):=by simp [szB]
   rw [e,←ih]
   simp only [List.map_cons]
   rw [lineL_two,mkB_data]
   simp only [List.length_append,List.length_cons,List.length_nil]
   omega
theorem fields_size (cur r:List UInt8):szB (fieldsGo cur r)≤cur.length+r.length+1:=by
 induction r generalizing cur with
 | nil =>
   simp only [fieldsGo]
   split
   ·simp [szB]
   ·simp [szB]
 | cons c r ih =>
   simp only [fieldsGo]
   split
   ·split
    ·have:=ih [];simp at this ⊢;omega
    ·have:=ih []
     have e:szB (cur::fieldsGo [] r)=cur.length+1+szB (fieldsGo [] r):=by simp [szB]
     rw [e];simp at this ⊢;omega
   ·have:=ih (cur++[c]);simp at this ⊢;omega
theorem words_size (l:List UInt8):szB (wordsL l)≤l.length+1:=by
 have h1:=fields_size [] (said l)
 have h2:=said_length l
 unfold wordsL
 simp at h1
 omega
theorem lines_sum (cur l:List UInt8):((linesGo cur l).map fun x=>x.length+1).sum=cur.length+l.length+1:=by
 induction l generalizing cur with
 | nil=>simp [linesGo]
 | cons c r ih =>
   simp only [linesGo]
   split
   ·have:=ih [];simp at this ⊢;omega
   ·have:=ih (cur++[c]);simp at this ⊢;omega
abbrev wordsN (L:List (Nat × List (List UInt8))):List (List ByteArray):=(asB L).map (·.2)
theorem wordsN_append (a b:List (Nat × List (List UInt8))):wordsN (a++b)=wordsN a++wordsN b:=by simp [wordsN,asB]
theorem szL_append (a b:List (List ByteArray)):szL (a++b)=szL a+szL b:=by simp [szL]
theorem num_size:∀ (n:Nat) (l:List (List UInt8)),szL (wordsN (numP (enumL n l)))≤(l.map fun x=>x.length+1).sum
 | n,[]=>by simp [enumL,numP,wordsN,asB,szL]
 | n,x::r=>by
   have ih:=num_size (n+1) r
   simp only [enumL]
   rw [numP_lineOf,wordsN_append,szL_append]
   have h1:szL (wordsN (lineOf n (wordsL x)))≤x.length+1:=by
    unfold lineOf
    split
    ·simp [wordsN,asB,szL]
    ·rename_i hne
     have:szL (wordsN [(n,wordsL x)])=szW ((wordsL x).map mkB):=by simp [wordsN,asB,szL]
     rw [this,szW_mk _ hne]
     exact words_size x
   simp only [List.map_cons,List.sum_cons]
   omega
theorem text_size (s:ByteArray):szL (wordsT s)≤s.size+1:=by
 unfold wordsT linV
 split
 ·simp [asB,szL]
 ·split
  ·have h1:=num_size 1 (linesGo [] s.data.toList)
   rw [lines_sum,size_list] at h1
   simp only [List.length_nil,Nat.zero_add] at h1
   exact h1
  ·simp [asB,szL]
def rightW (ws:List ByteArray):Prop:=ws≠[]∧∀ x∈ws,rightL x.data.toList=true
theorem fields_right (cur r:List UInt8) (hc:cur.all rwB=true) (hr:∀ c∈r,gapB c=false→rwB c=true):∀ x∈fieldsGo cur r,rightL x=true:=by
 induction r generalizing cur with
 | nil =>
   intro x hx
   simp only [fieldsGo] at hx
   split at hx
   ·cases hx
   ·rename_i hne
    simp at hx;subst hx
    unfold rightL
    rw [decide_eq_true hne,hc];rfl
 | cons c r ih =>
   intro x hx
   simp only [fieldsGo] at hx
   have hr':∀ d∈r,gapB d=false→rwB d=true:=fun d hd=>hr d (List.mem_cons_of_mem _ hd)
   split at hx
   ·split at hx
    ·exact ih [] rfl hr' x hx
    ·rename_i hne
     rcases List.mem_cons.1 hx with rfl | hx
     ·unfold rightL
      rw [decide_eq_true hne,hc];rfl
     ·exact ih [] rfl hr' x hx
   ·rename_i hg
    refine ih (cur++[c]) ?_ hr' x hx
    rw [List.all_append,hc]
    simp [hr c (List.mem_cons_self ..) (by simpa using hg)]
theorem said_no (l:List UInt8):(35:UInt8) ∉ said l:=by
 induction l with
 | nil=>simp [said]
 | cons c r ih =>
   simp only [said]
   split
   ·simp
   ·rename_i h
    simp only [List.mem_cons,not_or]
    exact ⟨fun e=>h e.symm,ih⟩
theorem said_sub (l:List UInt8):∀ c∈said l,c∈l:=by
 induction l with
 | nil=>simp [said]
 | cons c r ih =>
   intro d hd
   simp only [said] at hd
   split at hd
   ·cases hd
   ·rcases List.mem_cons.1 hd with rfl | hd
    ·exact List.mem_cons_self ..
    ·exact List.mem_cons_of_mem _ (ih d hd)
theorem okB_right {c:UInt8} (h:okB c=true) (h10:c≠10) (h35:c≠35) (hg:gapB c=false):rwB c=true:=by
 unfold okB at h
 unfold gapB at hg
 rw [Bool.or_eq_false_iff,beq_eq_false_iff_ne,beq_eq_false_iff_ne] at hg
 rw [Bool.or_eq_true,Bool.or_eq_true,beq_iff_eq,beq_iff_eq,Bool.and_eq_true,decide_eq_true_eq,decide_eq_true_eq] at h
 unfold rwB
 apply decide_eq_true
 have n35:c.toNat≠35:=fun e=>h35 (UInt8.toNat_inj.1 (by rw [e];rfl))
 have n32:c.toNat≠32:=fun e=>hg.2 (UInt8.toNat_inj.1 (by rw [e];rfl))
 rcases h with (h | h) | h
 ·exact absurd h hg.1
 ·exact absurd h h10
 ·omega
theorem linesGo_no10 (cur l:List UInt8) (hc:(10:UInt8) ∉ cur):∀ x∈linesGo cur l,(10:UInt8) ∉ x:=by
 induction l generalizing cur with
 | nil=>intro x hx;simp [linesGo] at hx;subst hx;exact hc
 | cons c r ih =>
   intro x hx
   simp only [linesGo] at hx
   split at hx
   ·rcases List.mem_cons.1 hx with rfl | hx
    ·exact hc
    ·exact ih [] (by simp) x hx
   ·rename_i h
    exact ih (cur++[c]) (by simp [hc,Ne.symm h]) x hx
theorem num_right:∀ (n:Nat) (l:List (List UInt8)),(∀ x∈l,okL x=true∧(10:UInt8) ∉ x)→∀ ws∈wordsN (numP (enumL n l)),rightW ws
 | n,[],_=>by intro ws hw;simp [enumL,numP,wordsN,asB] at hw
 | n,x::r,h=>by
   intro ws hw
   simp only [enumL] at hw
   rw [numP_lineOf,wordsN_append] at hw
   rcases List.mem_append.1 hw with hw | hw
   ·unfold lineOf at hw
    split at hw
    ·simp [wordsN,asB] at hw
    ·rename_i hne
     have e:wordsN [(n,wordsL x)]=[(wordsL x).map mkB]:=by simp [wordsN,asB]
     rw [e] at hw
     simp only [List.mem_singleton] at hw
     subst hw
     refine ⟨by simpa using hne,fun y hy=>?_⟩
     obtain ⟨z,hz,rfl⟩:=List.mem_map.1 hy
     rw [mkB_data]
     obtain ⟨h1,h2⟩:=h x (List.mem_cons_self ..)
     refine fields_right [] (said x) rfl (fun c hc hg=>?_) z hz
     have hcx:=said_sub x c hc
     exact okB_right (List.all_eq_true.1 h1 c hcx) (fun e=>h2 (e ▸ hcx)) (fun e=>said_no x (e ▸ hc)) hg
   ·exact num_right (n+1) r (fun y hy=>h y (List.mem_cons_of_mem _ hy)) ws hw
theorem text_right (s:ByteArray):∀ ws∈wordsT s,rightW ws:=by
 intro ws hw
 unfold wordsT linV at hw
 split at hw
 ·simp [asB] at hw
 ·split at hw
  ·rename_i ho
   refine num_right 1 (linesGo [] s.data.toList) (fun x hx=>⟨?_,linesGo_no10 [] _ (by simp) x hx⟩) ws hw
   exact (linesGo_all okB [] s.data.toList rfl ho x hx).1
  ·simp [asB] at hw
theorem part_words:∀ (ws:List (List UInt8)),ws≠[]→(∀ x∈ws,rightL x=true)→∀ (U:List UInt8) (vs:List (List UInt8)),GapPart U vs→PartOf (U++Lib.join ws [32]) (vs++ws)
 | [],h,_=>absurd rfl h
 | [x],_,h=>fun U vs hU=>by
   have e:Lib.join [x] [32]=x:=by simp [Lib.join,List.intercalate]
   rw [e]
   exact hU.word (h x (by simp))
 | x::y::r,_,h=>fun U vs hU=>by
   have e:Lib.join (x::y::r) [32]=x++([32]++Lib.join (y::r) [32]):=by simp [Lib.join,List.intercalate]
   rw [e]
   have h1:=hU.word (h x (by simp))
   have h2:=h1.gap (g:=[32]) (by simp) rfl (by simp)
   have h3:=part_words (y::r) (by simp) (fun z hz=>h z (List.mem_cons_of_mem _ hz)) _ _ h2
   simpa using h3
def textW (l:List (List ByteArray)):List UInt8:=l.flatMap fun ws=>lineL ws++[10]
theorem textW_length (l:List (List ByteArray)):(textW l).length=szL l:=by
 induction l with
 | nil=>rfl
 | cons ws l ih =>
   have e:textW (ws::l)=(lineL ws++[10])++textW l:=rfl
   rw [e,List.length_append,ih]
   simp [szL,szW]
theorem text_blocks (l:List (List ByteArray)) (h:∀ ws∈l,rightW ws):Blocks (textW l) (l.map fun ws=>ws.map (·.data.toList)):=by
 suffices H:∀ (l k:List (List ByteArray)),(∀ ws∈k,rightW ws)→Blocks (textW l) (l.map fun ws=>ws.map (·.data.toList))→Blocks (textW (l++k)) ((l++k).map fun ws=>ws.map (·.data.toList)) by
  simpa using H [] l h blocks_nil
 intro l k
 induction k generalizing l with
 | nil=>intro _ hb;simpa using hb
 | cons ws k ih =>
   intro hk hb
   have h1:=hk ws (List.mem_cons_self ..)
   have hne:ws.map (·.data.toList)≠[]:=by simpa using h1.1
   have hp:PartOf (lineL ws) (ws.map (·.data.toList)):=by
    have hg:GapPart [] []:=(part_start (g:=[]) rfl).gap0
    have:=part_words (ws.map (·.data.toList)) hne (fun x hx=>by
     obtain ⟨y,hy,rfl⟩:=List.mem_map.1 hx
     exact h1.2 y hy) [] [] hg
    simpa [lineL] using this
   have hs:=hb.snoc (r:=[]) (e:=[10]) hp (.inl rfl) (.inl rfl)
   rw [if_neg hne] at hs
   have e1:textW (l++[ws])=textW l++(lineL ws++[]++[10]):=by simp [textW]
   have hb':Blocks (textW (l++[ws])) ((l++[ws]).map fun ws=>ws.map (·.data.toList)):=by
    rw [e1];simpa using hs
   have:=ih (l++[ws]) (fun u hu=>hk u (List.mem_cons_of_mem _ hu)) hb'
   simpa using this
theorem text_back (l:List (List ByteArray)) (h:∀ ws∈l,rightW ws) (hs:szL l≤20000):linE (mkB (textW l)).data.toList=0∧wordsT (mkB (textW l))=l:=by
 have hb:=text_blocks l h
 obtain ⟨m,hm,_⟩:=hb.lines
 have hlen:¬ 20000 < (textW l).length:=by rw [textW_length];omega
 have e1:linE (textW l)=0:=by unfold linE;rw [if_neg hlen,if_pos hb.1]
 have e2:linV (textW l)=linesL (textW l):=by unfold linV;rw [if_neg hlen,if_pos hb.1]
 rw [mkB_data]
 refine ⟨e1,?_⟩
 unfold wordsT
 rw [mkB_data,e2]
 unfold asB
 rw [List.map_map]
 have e3:(fun x:Int × List ByteArray=>x.2) ∘ (fun x:Nat × List (List UInt8)=>((x.1:Int),x.2.map mkB))=(fun x:List (List UInt8)=>x.map mkB) ∘ (fun x:Nat × List (List UInt8)=>x.2):=rfl
 rw [e3,←List.map_map,hm,List.map_map]
 conv=>rhs;rw [←List.map_id l]
 refine List.map_congr_left fun ws _=>?_
 simp only [Function.comp,id,List.map_map]
 conv=>rhs;rw [←List.map_id ws]
 refine List.map_congr_left fun x _=>?_
 exact mkB_list x
end Go.Proofs.YtdegffffcbhjbaaGreatDoor.Un
end
section
namespace Go.Proofs.YtdegffffcbhjbaaGreatDoor.Un
open Go.RowKit
def acO (ws:List ByteArray):Option Acct:=if wd ws 0=tAccount∧(parseA ws).2=0 then some (parseA ws).1 else none
def flO (ws:List ByteArray):Option Fl.Flow:=if wd ws 0=Fl.tFlow∧(Fl.parseF ws).2=0 then some (Fl.parseF ws).1 else none
def enO (ws:List ByteArray):Option Ent:=if wd ws 0=tEntity∧formedW ws=true then some (entOf ws) else none
def liO (ws:List ByteArray):Option Lin:=if wd ws 0=tMap∧formedW ws=true then some (linOf ws) else none
def onO (t:ByteArray) (ws:List ByteArray):Option ByteArray:=if wd ws 0=t∧formedW ws=true then some (wd ws 1) else none
theorem acO_no {ws:List ByteArray} (h:wd ws 0≠tAccount):acO ws=none:=by unfold acO;rw [if_neg (fun e=>h e.1)]
theorem flO_no {ws:List ByteArray} (h:wd ws 0≠Fl.tFlow):flO ws=none:=by unfold flO;rw [if_neg (fun e=>h e.1)]
theorem enO_no {ws:List ByteArray} (h:wd ws 0≠tEntity):enO ws=none:=by unfold enO;rw [if_neg (fun e=>h e.1)]
theorem liO_no {ws:List ByteArray} (h:wd ws 0≠tMap):liO ws=none:=by unfold liO;rw [if_neg (fun e=>h e.1)]
theorem onO_no {t:ByteArray} {ws:List ByteArray} (h:wd ws 0≠t):onO t ws=none:=by unfold onO;rw [if_neg (fun e=>h e.1)]
theorem acO_yes {ws:List ByteArray} (h:wd ws 0=tAccount) (hp:(parseA ws).2=0):acO ws=some (parseA ws).1:=by unfold acO;rw [if_pos ⟨h,hp⟩]
theorem flO_yes {ws:List ByteArray} (h:wd ws 0=Fl.tFlow) (hp:(Fl.parseF ws).2=0):flO ws=some (Fl.parseF ws).1:=by unfold flO;rw [if_pos ⟨h,hp⟩]
theorem enO_yes {ws:List ByteArray} (h:wd ws 0=tEntity) (hp:formedW ws=true):enO ws=some (entOf ws):=by unfold enO;rw [if_pos ⟨h,hp⟩]
theorem liO_yes {ws:List ByteArray} (h:wd ws 0=tMap) (hp:formedW ws=true):liO ws=some (linOf ws):=by unfold liO;rw [if_pos ⟨h,hp⟩]
theorem onO_yes {t:ByteArray} {ws:List ByteArray} (h:wd ws 0=t) (hp:formedW ws=true):onO t ws=some (wd ws 1):=by unfold onO;rw [if_pos ⟨h,hp⟩]
def Good (ws:List ByteArray):Prop:=(wd ws 0=tAccount∧(parseA ws).2=0)∨(wd ws 0=Fl.tFlow∧(Fl.parseF ws).2=0)∨formedW ws=true
def oneL (x:ByteArray):List ByteArray:=if x=emp then [] else [x]
theorem oneL_no:oneL emp=[]:=by simp [oneL]
theorem oneL_yes {x:ByteArray} (h:x≠emp):oneL x=[x]:=by simp [oneL,h]
structure Inv (l:List (List ByteArray)) (M:Mast):Prop where
 chart:M.chart.Perm (l.filterMap acO)
 flows:M.flows.Perm (l.filterMap flO)
 ents:M.ents.Perm (l.filterMap enO)
 lines:M.lines.Perm (l.filterMap liO)
 cur:l.filterMap (onO tGroup)=oneL M.cur
 res:l.filterMap (onO tReserve)=oneL M.res
 dif:l.filterMap (onO tDiffer)=oneL M.dif
 min:l.filterMap (onO tMinor)=oneL M.min
 stk:l.filterMap (onO tStake)=oneL M.stk
 sane:Sane M
 good:∀ ws∈l,Good ws
theorem Inv.zero:Inv [] zeroM:=⟨.refl _,.refl _,.refl _,.refl _,rfl,rfl,rfl,rfl,rfl,Sane.zero,fun _ h=>by cases h⟩
theorem fm_no {α:Type} {f:List ByteArray→Option α} {l:List (List ByteArray)} {ws:List ByteArray} (h:f ws=none):(l++[ws]).filterMap f=l.filterMap f:=by simp [List.filterMap_append,h]
theorem fm_yes {α:Type} {f:List ByteArray→Option α} {l:List (List ByteArray)} {ws:List ByteArray} {x:α} (h:f ws=some x):(l++[ws]).filterMap f=l.filterMap f++[x]:=by simp [List.filterMap_append,h]
theorem perm_snoc {α:Type} {A B:List α} {x:α} {C:List α} (h:A.Perm B) (hc:C.Perm (x::A)):C.Perm (B++[x]) :=
 hc.trans ((List.Perm.cons x h).trans (List.perm_append_singleton x B).symm)
theorem insL_perm (L:List Acct) (x:Acct):(insL L x).Perm (x::L):=by
 rw [insL_eq]
 exact List.perm_middle.trans (by rw [List.take_append_drop])
theorem insK_perm (L:List Fl.Flow) (x:Fl.Flow):(insK Fl.Flow.code L x).Perm (x::L):=by
 unfold insK
 exact List.perm_middle.trans (by rw [List.take_append_drop])
theorem formed_one {ws:List ByteArray} (hf:formedW ws=true) (h:wd ws 0≠tEntity) (h':wd ws 0≠tMap):wd ws 1≠emp:=by
 rcases formed_ways hf with ⟨h0,_⟩ | ⟨h0,_⟩ | ⟨_,a,h1,ha⟩
 ·exact absurd h0 h
 ·exact absurd h0 h'
 ·rw [h1];exact nm_ne ha
theorem Inv.step {l:List (List ByteArray)} {M:Mast} {ws:List ByteArray} (h:Inv l M) (hs:stepE M ws=0):Inv (l++[ws]) (stepV M ws):=by
 have hsn:=h.sane.step hs
 have hgd:Good ws→∀ us∈l++[ws],Good us:=fun hg us hu=>by
  rcases List.mem_append.1 hu with hu | hu
  ·exact h.good us hu
  ·simp at hu;subst hu;exact hg
 rcases step_ways hs with ⟨w0,hp,ha,e⟩ | ⟨w0,hp,ha,e⟩ | ⟨hf,w0,ha,e⟩ | ⟨hf,w0,ha,e⟩ | ⟨hf,w0,ha,e⟩ | ⟨hf,w0,ha,e⟩ | ⟨hf,w0,ha,e⟩ | ⟨hf,w0,ha,e⟩ | ⟨hf,w0,ha,e⟩
 ·rw [e] at hsn ⊢
  exact ⟨by rw [fm_yes (acO_yes w0 hp)];exact perm_snoc h.chart (insL_perm _ _),by rw [fm_no (flO_no (by rw [w0];decide))];exact h.flows,by rw [fm_no (enO_no (by rw [w0];decide))];exact h.ents,by rw [fm_no (liO_no (by rw [w0];decide))];exact h.lines,by rw [fm_no (onO_no (by rw [w0];decide))];exact h.cur,by rw [fm_no (onO_no (by rw [w0];decide))];exact h.res,by rw [fm_no (onO_no (by rw [w0];decide))];exact h.dif,by rw [fm_no (onO_no (by rw [w0];decide))];exact h.min,by rw [fm_no (onO_no (by rw [w0];decide))];exact h.stk,hsn,hgd (.inl ⟨w0,hp⟩)⟩
 ·rw [e] at hsn ⊢
  exact ⟨by rw [fm_no (acO_no (by rw [w0];decide))];exact h.chart,by rw [fm_yes (flO_yes w0 hp)];exact perm_snoc h.flows (insK_perm _ _),by rw [fm_no (enO_no (by rw [w0];decide))];exact h.ents,by rw [fm_no (liO_no (by rw [w0];decide))];exact h.lines,by rw [fm_no (onO_no (by rw [w0];decide))];exact h.cur,by rw [fm_no (onO_no (by rw [w0];decide))];exact h.res,by rw [fm_no (onO_no (by rw [w0];decide))];exact h.dif,by rw [fm_no (onO_no (by rw [w0];decide))];exact h.min,by rw [fm_no (onO_no (by rw [w0];decide))];exact h.stk,hsn,hgd (.inr (.inl ⟨w0,hp⟩))⟩
 ·rw [e] at hsn ⊢
  exact ⟨by rw [fm_no (acO_no (by rw [w0];decide))];exact h.chart,by rw [fm_no (flO_no (by rw [w0];decide))];exact h.flows,by rw [fm_yes (enO_yes w0 hf)];exact perm_snoc h.ents (G.ins_perm _ _),by rw [fm_no (liO_no (by rw [w0];decide))];exact h.lines,by rw [fm_no (onO_no (by rw [w0];decide))];exact h.cur,by rw [fm_no (onO_no (by rw [w0];decide))];exact h.res,by rw [fm_no (onO_no (by rw [w0];decide))];exact h.dif,by rw [fm_no (onO_no (by rw [w0];decide))];exact h.min,by rw [fm_no (onO_no (by rw [w0];decide))];exact h.stk,hsn,hgd (.inr (.inr hf))⟩
 ·rw [e] at hsn ⊢
  exact ⟨by rw [fm_no (acO_no (by rw [w0];decide))];exact h.chart,by rw [fm_no (flO_no (by rw [w0];decide))];exact h.flows,by rw [fm_no (enO_no (by rw [w0];decide))];exact h.ents,by rw [fm_yes (liO_yes w0 hf)];exact perm_snoc h.lines (G.ins_perm _ _),by rw [fm_no (onO_no (by rw [w0];decide))];exact h.cur,by rw [fm_no (onO_no (by rw [w0];decide))];exact h.res,by rw [fm_no (onO_no (by rw [w0];decide))];exact h.dif,by rw [fm_no (onO_no (by rw [w0];decide))];exact h.min,by rw [fm_no (onO_no (by rw [w0];decide))];exact h.stk,hsn,hgd (.inr (.inr hf))⟩
 all_goals
  have hne:=formed_one hf (by rw [w0];decide) (by rw [w0];decide)
  rw [e] at hsn ⊢
  refine ⟨by rw [fm_no (acO_no (by rw [w0];decide))];exact h.chart,by rw [fm_no (flO_no (by rw [w0];decide))];exact h.flows,by rw [fm_no (enO_no (by rw [w0];decide))];exact h.ents,by rw [fm_no (liO_no (by rw [w0];decide))];exact h.lines,?_,?_,?_,?_,?_,hsn,hgd (.inr (.inr hf))⟩
  all_goals first
   | (rw [fm_no (onO_no (by rw [w0];decide))];first | exact h.cur | exact h.res | exact h.dif | exact h.min | exact h.stk)
   | (rw [fm_yes (onO_yes w0 hf)];first | rw [h.cur] | rw [h.res] | rw [h.dif] | rw [h.min] | rw [h.stk]
      rw [ha,oneL_no]
      exact (oneL_yes hne).symm)
theorem Inv.run {l k:List (List ByteArray)} {M N:Mast} (h:Inv l M) (hr:runM M k=(N,0)):Inv (l++k) N:=by
 induction k generalizing l M with
 | nil =>
   simp only [runM,Prod.mk.injEq] at hr
   rw [List.append_nil,←hr.1];exact h
 | cons ws k ih =>
   by_cases hs:stepE M ws=0
   ·rw [runM_cons _ _ _ hs] at hr
    have:=ih (h.step hs) hr
    simpa using this
   ·rw [runM_stop _ _ _ hs] at hr
    simp only [Prod.mk.injEq] at hr
    exact absurd hr.2 hs
theorem run_zero_of {l:List (List ByteArray)} {M:Mast} (h:runM zeroM l=(M,0)):Inv l M:=by
 simpa using Inv.zero.run h
end Go.Proofs.YtdegffffcbhjbaaGreatDoor.Un
end
section
namespace Go.Proofs.YtdegffffcbhjbaaGreatDoor.Un
open Go.RowKit
def ones:List ByteArray:=[tGroup,tReserve,tDiffer,tMinor,tStake]
structure Ok (l:List (List ByteArray)):Prop where
 good:∀ ws∈l,Good ws
 ac:((l.filterMap acO).map Acct.code).Nodup
 al:(l.filterMap acO).length≤60
 fc:((l.filterMap flO).map Fl.Flow.code).Nodup
 fk:Fl.onesF (l.filterMap flO)
 fl:(l.filterMap flO).length≤60
 ec:((l.filterMap enO).map Ent.code).Nodup
 el:(l.filterMap enO).length≤60
 lc:((l.filterMap liO).map Lin.key).Nodup
 ll:(l.filterMap liO).length≤1000
 on:∀ t∈ones,(l.filterMap (onO t)).length≤1
theorem riseL_eq:∀ L:List Acct,riseL L=G.riseK Acct.code L
 | []=>rfl
 | [_]=>rfl
 | a::b::L=>by
   have:=riseL_eq (b::L)
   unfold riseL G.riseK
   rw [this];rfl
theorem findL_none {L:List Acct} {c:ByteArray} (h:c ∉ L.map Acct.code):findL L c=none:=by
 cases hf:findL L c with
 | none=>rfl
 | some x =>
   obtain ⟨h1,h2⟩:=find_mem hf
   exact absurd (List.mem_map.2 ⟨x,h2,h1⟩) h
theorem findL_some {L:List Acct} {x:Acct} (h:x∈L):(findL L x.code).isSome=true:=by
 induction L with
 | nil=>cases h
 | cons a L ih =>
   simp only [findL]
   split
   ·rfl
   ·rename_i hne
    rcases List.mem_cons.1 h with rfl | h
    ·exact absurd rfl hne
    ·exact ih h
theorem findG_none {α κ:Type} [DecidableEq κ] {key:α→κ} {L:List α} {c:κ} (h:c ∉ L.map key):G.findK key L c=none :=
 G.findK_none fun x hx e=>h (List.mem_map.2 ⟨x,hx,e⟩)
theorem findG_some {α κ:Type} [DecidableEq κ] {key:α→κ} {L:List α} {x:α} (h:x∈L):(G.findK key L (key x)).isSome=true:=by
 cases hf:G.findK key L (key x) with
 | some y=>rfl
 | none=>exact absurd rfl (G.findK_no hf x h)
theorem fm_mid {α:Type} {f:List ByteArray→Option α} {l k:List (List ByteArray)} {ws:List ByteArray} {x:α} (h:f ws=some x):(l++ws::k).filterMap f=l.filterMap f++x::k.filterMap f:=by simp [List.filterMap_append,h]
theorem nodup_mid {α β:Type} {f:α→β} {A B:List α} {x:α} (h:((A++x::B).map f).Nodup):f x ∉ A.map f:=by
 rw [List.map_append,List.map_cons] at h
 intro hm
 exact (List.nodup_append.1 h).2.2 _ hm _ (List.mem_cons_self ..) rfl
theorem one_mid {l k:List (List ByteArray)} {ws:List ByteArray} {t x:ByteArray} (hl:l.filterMap (onO t)=oneL x) (hw:wd ws 0=t) (hf:formedW ws=true) (h:((l++ws::k).filterMap (onO t)).length≤1):oneE x=0:=by
 rw [fm_mid (onO_yes hw hf),hl] at h
 unfold oneE
 by_cases hx:x=emp
 ·rw [if_pos hx]
 ·rw [oneL_yes hx] at h;simp at h
theorem step_of_ok {l k:List (List ByteArray)} {M:Mast} {ws:List ByteArray} (h:Inv l M) (ho:Ok (l++ws::k)):stepE M ws=0:=by
 rcases ho.good ws (by simp) with ⟨w0,hp⟩ | ⟨w0,hp⟩ | hf
 ·unfold stepE
  rw [if_pos w0,if_pos hp]
  have hm:=fm_mid (k:=k) (l:=l) (acO_yes w0 hp)
  have h1:=ho.ac
  have h2:=ho.al
  rw [hm] at h1 h2
  have hfn:findL M.chart (parseA ws).1.code=none:=findL_none fun hx=>nodup_mid h1 (((h.chart.map _).mem_iff).1 hx)
  have hlen:¬ 60≤M.chart.length:=by
   rw [h.chart.length_eq]
   simp only [List.length_append,List.length_cons] at h2
   omega
  unfold addE
  rw [(parse_ok hp).2,hfn,if_neg (by simp),if_neg (by simp),if_neg hlen]
 ·unfold stepE
  rw [if_neg (by rw [w0];decide),if_pos w0,if_pos hp]
  have hm:=fm_mid (k:=k) (l:=l) (flO_yes w0 hp)
  have h1:=ho.fc
  have h2:=ho.fl
  have h3:=ho.fk
  rw [hm] at h1 h2 h3
  have hr:Fl.rightF (Fl.parseF ws).1=true:=by
   rcases Fl.parse_err ws with e | ⟨_,e,_⟩
   ·rw [e] at hp;simp at hp
   ·exact e
  have hrise:=Fl.rise_codes h.sane.fl
  have hfn:findK Fl.Flow.code M.flows (Fl.parseF ws).1.code=none:=findK_none fun x hx e=>nodup_mid h1 (((h.flows.map _).mem_iff).1 (List.mem_map.2 ⟨x,hx,e⟩))
  have hk:isK Fl.Flow.code M.flows (Fl.parseF ws).1.code=false:=by rw [(isK_find hrise _).1,hfn];rfl
  have hlen:¬ 60≤M.flows.length:=by
   rw [h.flows.length_eq]
   simp only [List.length_append,List.length_cons] at h2
   omega
  have hkind:(decide ((Fl.parseF ws).1.kind≠1) && Fl.hasF M.flows (Fl.parseF ws).1.kind)=false:=by
   by_cases h1k:(Fl.parseF ws).1.kind=1
   ·simp [h1k]
   ·have hkk:0≤(Fl.parseF ws).1.kind∧(Fl.parseF ws).1.kind < 5:=by
     have:=(Fl.right_parts hr).2
     omega
    have:=h3 _ hkk h1k
    rw [Fl.ofF_length,List.filter_append,List.filter_cons,if_pos (by simp),List.length_append,List.length_cons,←(h.flows.filter _).length_eq,←Fl.ofF_length] at this
    have h0:¬ 0 < (Fl.ofF M.flows (Fl.parseF ws).1.kind).length:=by omega
    unfold Fl.hasF
    rw [decide_eq_false h0,Bool.and_false]
  unfold Fl.addE
  rw [hr,if_neg (by simp),hk,hkind,if_neg (by simp),if_neg hlen]
 ·rcases formed_ways hf with ⟨w0,_⟩ | ⟨w0,_⟩ | ⟨w0,_⟩
  ·unfold stepE
   rw [if_neg (by rw [w0];decide),if_neg (by rw [w0];decide),if_neg (by rw [hf];simp),if_pos w0]
   have hm:=fm_mid (k:=k) (l:=l) (enO_yes w0 hf)
   have h1:=ho.ec
   have h2:=ho.el
   rw [hm] at h1 h2
   have hfn:G.findK Ent.code M.ents (entOf ws).code=none:=findG_none fun hx=>nodup_mid h1 (((h.ents.map _).mem_iff).1 hx)
   have hlen:¬ 60≤M.ents.length:=by
    rw [h.ents.length_eq]
    simp only [List.length_append,List.length_cons] at h2
    omega
   unfold entE
   rw [hfn,if_neg (by simp),if_neg hlen]
  ·unfold stepE
   rw [if_neg (by rw [w0];decide),if_neg (by rw [w0];decide),if_neg (by rw [hf];simp),if_neg (by rw [w0];decide),if_pos w0]
   have hm:=fm_mid (k:=k) (l:=l) (liO_yes w0 hf)
   have h1:=ho.lc
   have h2:=ho.ll
   rw [hm] at h1 h2
   have hfn:G.findK Lin.key M.lines (linOf ws).key=none:=findG_none fun hx=>nodup_mid h1 (((h.lines.map _).mem_iff).1 hx)
   have hlen:¬ 1000≤M.lines.length:=by
    rw [h.lines.length_eq]
    simp only [List.length_append,List.length_cons] at h2
    omega
   unfold linEr
   rw [hfn,if_neg (by simp),if_neg hlen]
  ·unfold stepE
   rcases w0 with w0 | w0 | w0 | w0 | w0
   ·rw [if_neg (by rw [w0];decide),if_neg (by rw [w0];decide),if_neg (by rw [hf];simp),if_neg (by rw [w0];decide),if_neg (by rw [w0];decide),if_pos w0]
    exact one_mid h.cur w0 hf (ho.on tGroup (by simp [ones]))
   ·rw [if_neg (by rw [w0];decide),if_neg (by rw [w0];decide),if_neg (by rw [hf];simp),if_neg (by rw [w0];decide),if_neg (by rw [w0];decide),if_neg (by rw [w0];decide),if_pos w0]
    exact one_mid h.res w0 hf (ho.on tReserve (by simp [ones]))
   ·rw [if_neg (by rw [w0];decide),if_neg (by rw [w0];decide),if_neg (by rw [hf];simp),if_neg (by rw [w0];decide),if_neg (by rw [w0];decide),if_neg (by rw [w0];decide),if_neg (by rw [w0];decide),if_pos w0]
    exact one_mid h.dif w0 hf (ho.on tDiffer (by simp [ones]))
   ·rw [if_neg (by rw [w0];decide),if_neg (by rw [w0];decide),if_neg (by rw [hf];simp),if_neg (by rw [w0];decide),if_neg (by rw [w0];decide),if_neg (by rw [w0];decide),if_neg (by rw [w0];decide),if_neg (by rw [w0];decide),if_pos w0]
    exact one_mid h.min w0 hf (ho.on tMinor (by simp [ones]))
   ·rw [if_neg (by rw [w0];decide),if_neg (by rw [w0];decide),if_neg (by rw [hf];simp),if_neg (by rw [w0];decide),if_neg (by rw [w0];decide),if_neg (by rw [w0];decide),if_neg (by rw [w0];decide),if_neg (by rw [w0];decide),if_neg (by rw [w0];decide)]
    exact one_mid h.stk w0 hf (ho.on tStake (by simp [ones]))
theorem run_of_ok {l k:List (List ByteArray)} {M:Mast} (h:Inv l M) (ho:Ok (l++k)):∃ N,runM M k=(N,0):=by
 induction k generalizing l M with
 | nil=>exact ⟨M,rfl⟩
 | cons ws k ih =>
   have hs:=step_of_ok h ho
   obtain ⟨N,hN⟩:=ih (h.step hs) (by simpa using ho)
   exact ⟨N,by rw [runM_cons _ _ _ hs];exact hN⟩
theorem run_ok {l:List (List ByteArray)} (ho:Ok l):∃ M,runM zeroM l=(M,0)∧Inv l M:=by
 obtain ⟨M,hM⟩:=run_of_ok Inv.zero (by simpa using ho)
 exact ⟨M,hM,run_zero_of hM⟩
end Go.Proofs.YtdegffffcbhjbaaGreatDoor.Un
end
section
namespace Go.Proofs.YtdegffffcbhjbaaGreatDoor
open Go.RowKit
structure AcctAt (w:World) (b o:Nat) (a:Acct):Prop where
 c0:w.cell? ⟨b,o,none⟩=some (.string a.code)
 c1:w.cell? ⟨b,o+1,none⟩=some (.int .i64 a.cls)
 c2:w.cell? ⟨b,o+2,none⟩=some (.bool a.cash)
 c3:w.cell? ⟨b,o+3,none⟩=some (.bool a.both)
 c4:w.cell? ⟨b,o+4,none⟩=some (.string a.fixed)
 c5:w.cell? ⟨b,o+5,none⟩=some (.bool a.worn)
theorem AcctAt.lt {w:World} {b o:Nat} {a:Acct} (h:AcctAt w b o a):b < w.heap.size:=World.block_lt_of_cell? w _ h.c0
theorem AcctAt.keep {w w':World} {b o B:Nat} {a:Acct} (h:AcctAt w b o a) (hb:Below B w w') (hB:b < B):AcctAt w' b o a :=
 ⟨(hb.cell (p:=⟨b,_,none⟩) hB).trans h.c0,(hb.cell (p:=⟨b,_,none⟩) hB).trans h.c1,(hb.cell (p:=⟨b,_,none⟩) hB).trans h.c2,(hb.cell (p:=⟨b,_,none⟩) hB).trans h.c3,(hb.cell (p:=⟨b,_,none⟩) hB).trans h.c4,(hb.cell (p:=⟨b,_,none⟩) hB).trans h.c5⟩
theorem acct_of {w:World} {b o:Nat} {a:Acct} (h:∀ j v,a.cells[j]?=some v→w.cell? ⟨b,o+j,none⟩=some v):AcctAt w b o a :=
 ⟨h 0 _ rfl,h 1 _ rfl,h 2 _ rfl,h 3 _ rfl,h 4 _ rfl,h 5 _ rfl⟩
theorem AcctAt.cell {w:World} {b o:Nat} {a:Acct} (h:AcctAt w b o a):∀ (j:Nat) v,a.cells[j]?=some v→w.cell? ⟨b,o+j,none⟩=some v
 | 0,_,e=>by cases e;exact h.c0
 | 1,_,e=>by cases e;exact h.c1
 | 2,_,e=>by cases e;exact h.c2
 | 3,_,e=>by cases e;exact h.c3
 | 4,_,e=>by cases e;exact h.c4
 | 5,_,e=>by cases e;exact h.c5
 | j+6,_,e=>by simp [Acct.cells] at e
def ChartV (w:World) (v:Value) (L:List Acct):Prop :=
 ∃ p c,v=.slice p L.length c∧L.length≤c∧c≤maxLen∧(p=none→c=0)∧∀ (i:Nat) (x:Acct),L[i]?=some x→∃ b o,p=some ⟨b,o,none⟩∧AcctAt w b (o+i * 6) x
theorem ChartV.nil (w:World):ChartV w (.slice none 0 0) []:=⟨none,0,rfl,by simp,by simp,fun _=>rfl,fun i x h=>by simp at h⟩
theorem ChartV.keep {w w':World} {v:Value} {L:List Acct} (h:ChartV w v L) (hb:Below w.heap.size w w'):ChartV w' v L:=by
 obtain ⟨a,c,e,h1,h2,h3,hc⟩:=h
 exact ⟨a,c,e,h1,h2,h3,fun i x hx=>by
  obtain ⟨b,o,ea,hx'⟩:=hc i x hx
  exact ⟨b,o,ea,hx'.keep hb hx'.lt⟩⟩
def flatA (L:List Acct):List Value:=L.flatMap Acct.cells
theorem flatA_cons (a:Acct) (L:List Acct):flatA (a::L)=a.cells++flatA L:=rfl
theorem flatA_append (L M:List Acct):flatA (L++M)=flatA L++flatA M:=by simp [flatA]
theorem flatA_length (L:List Acct):(flatA L).length=L.length * 6:=by
 induction L with
 | nil=>rfl
 | cons a L ih=>rw [flatA_cons];simp [ih,Acct.cells];omega
theorem flatA_at:∀ (L:List Acct) (i:Nat) (x:Acct),L[i]?=some x→∀ (j:Nat) v,x.cells[j]?=some v→(flatA L)[i * 6+j]?=some v
 | [],i,x,h=>by simp at h
 | y::L,0,x,h=>by
   simp at h
   subst h
   intro j v hj
   have:j < y.cells.length:=(List.getElem?_eq_some_iff.1 hj).1
   rw [flatA_cons,Nat.zero_mul,Nat.zero_add,List.getElem?_append_left this];exact hj
 | y::L,i+1,x,h=>fun j v hj=>by
   have ih:=flatA_at L i x (by simpa using h) j v hj
   rw [flatA_cons,show (i+1) * 6+j=y.cells.length+(i * 6+j) by simp [Acct.cells];omega,List.getElem?_append_right (by omega)]
   simpa using ih
theorem flatA_of {L:List Acct} {k:Nat} {v:Value} (h:(flatA L)[k]?=some v):∃ x,L[k / 6]?=some x∧x.cells[k % 6]?=some v:=by
 have hk:k < L.length * 6:=by rw [←flatA_length];exact (List.getElem?_eq_some_iff.1 h).1
 have hi:k / 6 < L.length:=by omega
 refine ⟨L[k / 6],List.getElem?_eq_getElem hi,?_⟩
 have hj:k % 6 < (L[k / 6]).cells.length:=by simp [Acct.cells];omega
 have:=flatA_at L (k / 6) _ (List.getElem?_eq_getElem hi) (k % 6) _ (List.getElem?_eq_getElem hj)
 rw [show k / 6 * 6+k % 6=k by omega,h] at this
 rw [List.getElem?_eq_getElem hj,this]
theorem flatA_one (L:List Acct):∀ v∈flatA L,v.oneCell'=true:=by
 intro v hv
 obtain ⟨a,_,ha⟩:=List.mem_flatMap.1 hv
 simp [Acct.cells] at ha
 rcases ha with rfl | rfl | rfl | rfl | rfl | rfl <;> rfl
theorem flatA_take (L:List Acct) (k:Nat):flatA (L.take k)=(flatA L).take (k * 6):=by
 induction L generalizing k with
 | nil=>simp [flatA]
 | cons a L ih =>
   cases k with
   | zero=>simp [flatA]
   | succ k =>
     rw [List.take_succ_cons,flatA_cons,flatA_cons,ih,List.take_append]
     have:a.cells.length=6:=rfl
     rw [this,show (k+1) * 6 - 6=k * 6 by omega,List.take_of_length_le (l:=a.cells) (by rw [this];omega)]
theorem flatA_drop (L:List Acct) (k:Nat):flatA (L.drop k)=(flatA L).drop (k * 6):=by
 induction L generalizing k with
 | nil=>simp [flatA]
 | cons a L ih =>
   cases k with
   | zero=>simp
   | succ k =>
     rw [List.drop_succ_cons,flatA_cons,ih,List.drop_append]
     have:a.cells.length=6:=rfl
     rw [this,show (k+1) * 6 - 6=k * 6 by omega,List.drop_of_length_le (l:=a.cells) (by rw [this];omega),List.nil_append]
theorem ChartV.cells {w:World} {p:Option Addr} {n c:Nat} {L:List Acct} (h:ChartV w (.slice p n c) L) (hL:L≠[]):∃ b o,p=some ⟨b,o,none⟩∧b < w.heap.size∧∀ (j:Nat) v,(flatA L)[j]?=some v→w.cell? ⟨b,o+j,none⟩=some v:=by
 obtain ⟨p',c',e,_,_,_,hc⟩:=h
 cases e
 cases L with
 | nil=>exact absurd rfl hL
 | cons a L =>
   obtain ⟨b,o,rfl,h0⟩:=hc 0 a rfl
   refine ⟨b,o,rfl,h0.lt,fun j v hj=>?_⟩
   obtain ⟨x,hx,hv⟩:=flatA_of hj
   obtain ⟨b',o',e',h1⟩:=hc _ x hx
   cases e'
   have:=h1.cell _ v hv
   rwa [Nat.add_assoc,show j / 6 * 6+j % 6=j by omega] at this
theorem chart_of_own {w:World} {B:Nat} {e:TypeId} {v:Value} {L:List Acct} (h:w.ownsRow B e 6 v L.length (flatA L)):ChartV w v L:=by
 have h0:=h
 rcases h.2 with ⟨rfl,hn⟩ | ⟨g,cap,cur,rfl,_,_,hnc,hcm,_⟩
 ·have:L=[]:=List.eq_nil_of_length_eq_zero hn
  subst this
  exact ChartV.nil w
 ·refine ⟨_,cap,rfl,hnc,hcm,(fun e=>by cases e),fun i x hx=>⟨g,0,rfl,acct_of fun j u hj=>?_⟩⟩
  have:=h0.cells (g:=g) rfl _ _ (flatA_at L i x hx j u hj)
  rwa [add_off,←Nat.add_assoc] at this
end Go.Proofs.YtdegffffcbhjbaaGreatDoor
end
section
namespace Go.Proofs.YtdegffffcbhjbaaGreatDoor
open Go.RowKit
def BoxA (w:World) (b:Nat) (t:TypeId) (a:Acct):Prop:=w.heap[b]?=some (.cells #[.string a.code,.int .i64 a.cls,.bool a.cash,.bool a.both,.string a.fixed,.bool a.worn] t (0,0))
theorem BoxA.keep {w w':World} {b B:Nat} {t:TypeId} {a:Acct} (h:BoxA w b t a) (hb:Below B w w') (hB:b < B):BoxA w' b t a:=(hb.block b hB).trans h
theorem BoxA.new (w:World) (a:Acct) (t:TypeId):BoxA (w.alloc (.cells #[.string a.code,.int .i64 a.cls,.bool a.cash,.bool a.both,.string a.fixed,.bool a.worn] t)) w.heap.size t a:=heap_alloc_new w _
theorem BoxA.at0 {w:World} {b:Nat} {t:TypeId} {a:Acct} (h:BoxA w b t a):AcctAt w b 0 a :=
 acct_of fun j v hj=>by rw [Nat.zero_add,cell_of_row _ b j _ t (0,0) h];simpa [Acct.cells] using hj
theorem BoxA.facts {w:World} {b:Nat} {t:TypeId} {a:Acct} (h:BoxA w b t a) :
 w.cell? ⟨b,0,none⟩=some (.string a.code)∧w.cell? ⟨b,1,none⟩=some (.int .i64 a.cls)∧w.cell? ⟨b,2,none⟩=some (.bool a.cash)∧w.cell? ⟨b,3,none⟩=some (.bool a.both)∧w.cell? ⟨b,4,none⟩=some (.string a.fixed)∧w.cell? ⟨b,5,none⟩=some (.bool a.worn) :=
 ⟨h.at0.c0,h.at0.c1,h.at0.c2,h.at0.c3,h.at0.c4,h.at0.c5⟩
theorem BoxA.set {w:World} {b:Nat} {t:TypeId} {a:Acct} (h:BoxA w b t a) (x:Acct):BoxA (w.setRow b #[.string x.code,.int .i64 x.cls,.bool x.cash,.bool x.both,.string x.fixed,.bool x.worn]) b t x:=setRow_heap w b _ _ t _ h
theorem acct_one (a:Acct):(#[.string a.code,.int .i64 a.cls,.bool a.cash,.bool a.both,.string a.fixed,.bool a.worn]:Array Value).all (·.oneCell')=true:=by simp [Value.oneCell']
theorem grownBy_setRow (w:World) (g:Nat) (cs:Array Value):w.grownBy (w.setRow g cs) (some g) :=
 ⟨rfl,rfl,rfl,by simp [World.setRow],fun k _ hk=>setRow_other w g k cs (fun e=>hk (by rw [e]))⟩
theorem wpList_store_acct {P:Program} {ops:Array Oper} {rest:List Oper} {o:Oper} {act:Act} {w:World} {Q:Exit→Act→World→Prop} (hgd:o.guard=none) (ty:TypeId) (x y:Operand) (ho:o.op=.store ty x y)
 (g:Nat) (z a:Acct) (t:TypeId) (hx:act.eval x=.pointer (some ⟨g,0,none⟩)) (hy:act.eval y=.agg #[.string a.code,.int .i64 a.cls,.bool a.cash,.bool a.both,.string a.fixed,.bool a.worn]) (hg:BoxA w g t z) (hi:(P.info? ty).map (·.size)=some 6)
 (h:∀ w',BoxA w' g t a→w.grownBy w' (some g)→wpList P ops Q rest (act.put o.dst undef) w'):wpList P ops Q (o::rest) act w :=
 wpList_store_row hgd ty x y ho g _ hx hy t _ hg hi rfl (acct_one a) (h _ (hg.set a) (grownBy_setRow w g _))
abbrev aggF (a:Acct):Value:=.agg #[.string a.code,.int .i64 a.cls,.bool a.cash,.bool a.both,.string a.fixed,.bool a.worn]
def findV (o:Option Acct):Acct:=o.getD zeroA
set_option maxRecDepth 100000 in
set_option maxHeartbeats 2000000 in
theorem find_any (v:Value) (L:List Acct) (code:ByteArray) (w:World) (h:ChartV w v L) :
 Calls Tryz.prog 35 #[v,.string code] w fun e w'=>e=.returned (.tuple #[aggF (findV (findL L code)),.bool (findL L code).isSome])∧Below w.heap.size w w':=by
 obtain ⟨a,c,rfl,hcap,hm,_,hc⟩:=h
 obtain ⟨n,hn⟩:∃ n,L.length=n:=⟨_,rfl⟩
 obtain ⟨r,hr⟩:∃ r,findL L code=r:=⟨_,rfl⟩
 rw [hn] at hcap ⊢
 rw [hr]
 have HC:=Lib.hid hc
 have HN:=Lib.hid hn
 have HR:=Lib.hid hr
 unfold maxLen at hm
 clear hc hn hr
 obtain ⟨R,hR⟩:∃ R,findV r=R:=⟨_,rfl⟩
 obtain ⟨S,hS⟩:∃ S,r.isSome=S:=⟨_,rfl⟩
 rw [hR,hS]
 have HRV:=Lib.hid hR
 have HSV:=Lib.hid hS
 clear hR hS
 have HB0:=Lib.hid ((Below.refl w.heap.size w).alloc (Nat.le_refl _) (.cells #[.string ⟨#[]⟩,.int .i64 0,.bool false,.bool false,.string ⟨#[]⟩,.bool false] 99))
 have HC0:=Lib.hid (BoxA.new w zeroA 99)
 go_enter Tryz.func35,Tryz.ntmps35
 go_wp2
 go_loopw [10] (fun s10 wr=>∃ i:Nat,i≤n∧s10=.int .i64 (i:Int)∧Below w.heap.size w wr∧w.heap.size < wr.heap.size∧BoxA wr w.heap.size 99 zeroA∧Hid (∀ (j:Nat) (y:Acct),j < i→L[j]?=some y→y.code≠code)) (fun s10 _=>n - (intOf s10).toNat)
 case atStart=>exact ⟨0,Nat.zero_le _,rfl,HB0.out,by simp,HC0.out,Lib.hid fun j y hj=>absurd hj (Nat.not_lt_zero _)⟩
 case round =>
  obtain ⟨i,hi,rfl,hnx,hsz,hbox,HNO⟩:=hrel
  by_cases hlt:i < n
  ·obtain ⟨x,hx⟩:∃ x,L[i]?=some x:=⟨_,List.getElem?_eq_getElem (by rw [HN.out];exact hlt)⟩
   obtain ⟨b,o,rfl,hat⟩:=HC.out i x hx
   obtain ⟨c0,c1,c2,c3,c4,c5⟩:=hat.keep hnx hat.lt
   have HX:=Lib.hid hx
   have HBX:=Lib.hid hbox
   have HNX:=Lib.hid (hnx.alloc (Nat.le_of_lt hsz) (.cells #[.string x.code,.int .i64 x.cls,.bool x.cash,.bool x.both,.string x.fixed,.bool x.worn] 99))
   have HBN:=Lib.hid (hbox.keep ((Below.refl wr.heap.size wr).alloc (Nat.le_refl _) (.cells #[.string x.code,.int .i64 x.cls,.bool x.cash,.bool x.both,.string x.fixed,.bool x.worn] 99)) hsz)
   have HSZ:=Lib.hid hsz
   clear hx hbox hat
   cases hxe:(x.code.toList==code.toList) with
   | false =>
     have HXE:=Lib.hid ((Lib.bytes_beq_false_iff x.code code).1 hxe)
     go_wp2
     go_roundw
     case rel=>exact ⟨i+1,by omega,by go_num,HNX.out,by simp;omega,HBN.out,Lib.hid fun j y hj hy=>by
      rcases Nat.lt_or_ge j i with h | h
      ·exact HNO.out j y h hy
      ·obtain rfl:j=i:=by omega
       rw [HX.out] at hy;cases hy;exact HXE.out⟩
     case measure=>simp [intOf];omega
   | true =>
     have HXE:=Lib.hid ((Lib.bytes_beq_iff x.code code).1 hxe)
     have hres:Hid (r=some x):=Lib.hid (by rw [←HR.out];exact find_at HNO.out HX.out HXE.out)
     go_wp2_with (refine wpList_store_acct rfl 99 (.tmp 4) (.tmp 18) rfl w.heap.size zeroA x 99 rfl rfl HBN.out (by kernel_rfl) ?_;intro w2 hb2 hg2)
     have HF:=Lib.hid (HNX.out.grown hg2 HNX.out.size (fun j hj=>by cases hj;exact Nat.le_refl _))
     obtain ⟨d0,d1,d2,d3,d4,d5⟩:=hb2.facts
     clear hb2 hg2
     refine bodyPost_ret (v:=.tuple #[aggF x,.bool true]) (by simp [results,Tryz.results35,go_sem,d0,d1,d2,d3,d4,d5]) rfl ⟨?_,HF.out⟩
     rw [←HRV.out,←HSV.out,hres.out];rfl
  ·have hres:Hid (r=none):=Lib.hid (by
    rw [←HR.out]
    refine find_none fun j y hy=>HNO.out j y ?_ hy
    have:=(List.getElem?_eq_some_iff.1 hy).1
    rw [HN.out] at this;omega)
   have HNX:=Lib.hid hnx
   go_wp2_with (refine wpList_store_acct rfl 99 (.tmp 4) (.tmp 20) rfl w.heap.size zeroA zeroA 99 rfl rfl hbox (by kernel_rfl) ?_;intro w2 hb2 hg2)
   have HF:=Lib.hid (HNX.out.grown hg2 HNX.out.size (fun j hj=>by cases hj;exact Nat.le_refl _))
   obtain ⟨d0,d1,d2,d3,d4,d5⟩:=hb2.facts
   clear hb2 hg2
   refine bodyPost_ret (v:=.tuple #[aggF zeroA,.bool false]) (by simp [results,Tryz.results35,go_sem,d0,d1,d2,d3,d4,d5]) rfl ⟨?_,HF.out⟩
   rw [←HRV.out,←HSV.out,hres.out];rfl
end Go.Proofs.YtdegffffcbhjbaaGreatDoor
end
section
namespace Go.Proofs.YtdegffffcbhjbaaGreatDoor.Un
open Go.RowKit
structure MastIn (w:World) (c f e l:Value) (M:Mast):Prop where
 chart:ChartV w c M.chart
 flows:Fl.FlowsV w f M.flows
 ents:ElsV encE w e M.ents
 lines:ElsV encL w l M.lines
theorem MastIn.keep {w w':World} {c f e l:Value} {M:Mast} (h:MastIn w c f e l M) (hb:Below w.heap.size w w'):MastIn w' c f e l M :=
 ⟨h.chart.keep hb,h.flows.keep hb,h.ents.keep hb,h.lines.keep hb⟩
theorem MastIn.zero (w:World):MastIn w (.slice none 0 0) (.slice none 0 0) (.slice none 0 0) (.slice none 0 0) zeroM :=
 ⟨ChartV.nil _,ElsV.nil _,ElsV.nil _,ElsV.nil _⟩
abbrev cellsM (c f e l:Value) (M:Mast):Array Value:=#[c,f,e,l,.string M.cur,.string M.res,.string M.dif,.string M.min,.string M.stk]
abbrev aggM (c f e l:Value) (M:Mast):Value:=.agg #[c,f,e,l,.string M.cur,.string M.res,.string M.dif,.string M.min,.string M.stk]
def MastV (w:World) (v:Value) (M:Mast):Prop:=∃ c f e l,v=aggM c f e l M∧MastIn w c f e l M
def MastTold (w:World) (M:Mast) (n:Int) (en:Ending) (w':World):Prop:=∃ v,en=.returned (.tuple #[v,.int .i64 n])∧MastV w' v M∧Below w.heap.size w w'
structure NineAt (w:World) (b:Nat) (c f e l:Value) (M:Mast):Prop where
 c0:w.cell? ⟨b,0,none⟩=some c
 c1:w.cell? ⟨b,1,none⟩=some f
 c2:w.cell? ⟨b,2,none⟩=some e
 c3:w.cell? ⟨b,3,none⟩=some l
 c4:w.cell? ⟨b,4,none⟩=some (.string M.cur)
 c5:w.cell? ⟨b,5,none⟩=some (.string M.res)
 c6:w.cell? ⟨b,6,none⟩=some (.string M.dif)
 c7:w.cell? ⟨b,7,none⟩=some (.string M.min)
 c8:w.cell? ⟨b,8,none⟩=some (.string M.stk)
theorem NineAt.lt {w:World} {b:Nat} {c f e l:Value} {M:Mast} (h:NineAt w b c f e l M):b < w.heap.size:=World.block_lt_of_cell? w _ h.c0
theorem NineAt.keep {w w':World} {b B:Nat} {c f e l:Value} {M:Mast} (h:NineAt w b c f e l M) (hb:Below B w w') (hB:b < B):NineAt w' b c f e l M :=
 ⟨(hb.cell (p:=⟨b,_,none⟩) hB).trans h.c0,(hb.cell (p:=⟨b,_,none⟩) hB).trans h.c1,(hb.cell (p:=⟨b,_,none⟩) hB).trans h.c2,(hb.cell (p:=⟨b,_,none⟩) hB).trans h.c3,(hb.cell (p:=⟨b,_,none⟩) hB).trans h.c4,(hb.cell (p:=⟨b,_,none⟩) hB).trans h.c5,(hb.cell (p:=⟨b,_,none⟩) hB).trans h.c6,(hb.cell (p:=⟨b,_,none⟩) hB).trans h.c7,(hb.cell (p:=⟨b,_,none⟩) hB).trans h.c8⟩
theorem NineAt.kept {w w':World} {b:Nat} {c f e l:Value} {M:Mast} (h:NineAt w b c f e l M) (hb:Below w.heap.size w w'):NineAt w' b c f e l M:=h.keep hb h.lt
theorem nine_of {w:World} {b:Nat} {t:TypeId} {c f e l:Value} {M:Mast} {more:List Value} {fr:Nat × Nat} (h:w.heap[b]?=some (.cells ([c,f,e,l,.string M.cur,.string M.res,.string M.dif,.string M.min,.string M.stk]++more).toArray t fr)):NineAt w b c f e l M:=by
 have hc:=fun i=>cell_of_row w b i _ t fr h
 exact ⟨(hc 0).trans rfl,(hc 1).trans rfl,(hc 2).trans rfl,(hc 3).trans rfl,(hc 4).trans rfl,(hc 5).trans rfl,(hc 6).trans rfl,(hc 7).trans rfl,(hc 8).trans rfl⟩
theorem nine_new (w:World) (c f e l:Value) (M:Mast) (t:TypeId):NineAt (w.alloc (.cells (cellsM c f e l M) t)) w.heap.size c f e l M :=
 nine_of (more:=[]) (heap_alloc_new w _)
def BoxM (w:World) (b:Nat) (t:TypeId) (c f e l:Value) (M:Mast):Prop:=w.heap[b]?=some (.cells (cellsM c f e l M) t (0,0))
theorem BoxM.lt {w:World} {b:Nat} {t:TypeId} {c f e l:Value} {M:Mast} (h:BoxM w b t c f e l M):b < w.heap.size:=(Array.getElem?_eq_some_iff.1 h).1
theorem BoxM.keep {w w':World} {b B:Nat} {t:TypeId} {c f e l:Value} {M:Mast} (h:BoxM w b t c f e l M) (hb:Below B w w') (hB:b < B):BoxM w' b t c f e l M:=(hb.block b hB).trans h
theorem BoxM.kept {w w':World} {b:Nat} {t:TypeId} {c f e l:Value} {M:Mast} (h:BoxM w b t c f e l M) (hb:Below w.heap.size w w'):BoxM w' b t c f e l M:=h.keep hb h.lt
theorem BoxM.nine {w:World} {b:Nat} {t:TypeId} {c f e l:Value} {M:Mast} (h:BoxM w b t c f e l M):NineAt w b c f e l M:=nine_of (more:=[]) h
structure Ones (c f e l:Value):Prop where
 c:c.oneCell'=true
 f:f.oneCell'=true
 e:e.oneCell'=true
 l:l.oneCell'=true
theorem ones_of {w:World} {c f e l:Value} {M:Mast} (h:MastIn w c f e l M):Ones c f e l:=by
 obtain ⟨p0,k0,rfl,_⟩:=h.chart
 obtain ⟨p1,k1,rfl,_⟩:=h.flows
 obtain ⟨p2,k2,rfl,_⟩:=h.ents
 obtain ⟨p3,k3,rfl,_⟩:=h.lines
 exact ⟨rfl,rfl,rfl,rfl⟩
theorem wpList_store_mast {P:Program} {ops:Array Oper} {rest:List Oper} {o:Oper} {act:Act} {w:World} {Q:Exit→Act→World→Prop} (hgd:o.guard=none) (ty:TypeId) (x y:Operand) (ho:o.op=.store ty x y)
 (g:Nat) (c0 f0 e0 l0 c f e l:Value) (M0 M:Mast) (t:TypeId) (hx:act.eval x=.pointer (some ⟨g,0,none⟩)) (hy:act.eval y=aggM c f e l M) (hg:BoxM w g t c0 f0 e0 l0 M0) (h1:Ones c f e l) (hi:(P.info? ty).map (·.size)=some 9)
 (h:∀ w',BoxM w' g t c f e l M→w.grownBy w' (some g)→wpList P ops Q rest (act.put o.dst undef) w'):wpList P ops Q (o::rest) act w :=
 wpList_store_row hgd ty x y ho g _ hx hy t _ hg hi rfl (by have hs:∀ s,(Value.string s).oneCell'=true:=fun _=>rfl;simp [h1.c,h1.f,h1.e,h1.l,hs]) (h _ (setRow_heap w g _ _ t _ hg) (grownBy_set w g _))
structure Role where
 head:ByteArray
 code:ByteArray
 cls:Int
abbrev encR:Enc Role:=⟨fun r=>[.string r.head,.string r.code,.int .i64 r.cls],3,fun _=>rfl,by decide,fun _ v hv=>by simp at hv;rcases hv with rfl | rfl | rfl <;> rfl⟩
theorem role3 {w:World} {b o:Nat} {r:Role} (h:ElAt encR w b o r):w.cell? ⟨b,o,none⟩=some (.string r.head)∧w.cell? ⟨b,o+1,none⟩=some (.string r.code)∧w.cell? ⟨b,o+2,none⟩=some (.int .i64 r.cls):=⟨h 0 _ rfl,h 1 _ rfl,h 2 _ rfl⟩
def rolesOf (M:Mast):List Role:=[⟨tReserve,M.res,2⟩,⟨tDiffer,M.dif,0⟩,⟨tMinor,M.min,2⟩,⟨tStake,M.stk,0⟩]
theorem rolesN_all (M:Mast):(rolesOf M).all (fun r=>hasA M.chart r.code)=rolesN M:=by
 simp [rolesOf,rolesN,Bool.and_assoc]
theorem rolesP_all (M:Mast):(rolesOf M).all (fun r=>plainA M.chart r.code r.cls)=rolesP M:=by
 simp [rolesOf,rolesP,Bool.and_assoc]
set_option maxHeartbeats 1000000 in
theorem roles_any (c f e l:Value) (M:Mast) (w:World) :
 Calls Tryz.prog 112 #[aggM c f e l M] w fun en w'=>∃ b,en=.returned (.slice (some ⟨b,0,none⟩) 4 4)∧ElsV encR w' (.slice (some ⟨b,0,none⟩) 4 4) (rolesOf M)∧Below w.heap.size w w':=by
 have HB:=Lib.hid ((Below.refl w.heap.size w).alloc (Nat.le_refl _) (.cells (cellsM c f e l M) 30))
 have HN:=Lib.hid (nine_new w c f e l M 30)
 have hE:=els_new encR (w.alloc (.cells (cellsM c f e l M) 30)) (rolesOf M) 213 (by unfold maxLen;simp [rolesOf])
 rw [World.size_alloc] at hE
 have HE:=Lib.hid hE
 clear hE
 obtain ⟨c0,c1,c2,c3,c4,c5,c6,c7,c8⟩:=HN.out
 go_enter Tryz.func112,Tryz.ntmps112
 go_wp2
 go_ret
 refine ⟨_,rfl,HE.out,HB.out.alloc HB.out.size _⟩
end Go.Proofs.YtdegffffcbhjbaaGreatDoor.Un
end
section
namespace Go.Proofs.YtdegffffcbhjbaaGreatDoor
open Go.RowKit
structure InfoE {α:Type} (P:Program) (t e:TypeId) (E:Enc α):Prop where
 under:P.underlying t=some (.slice e)
 info:∃ i z n,P.info? e=some i∧i.zero=some z∧i.size=E.k∧i.bytes=n∧z.cells.size=E.k∧n≤1000
theorem InfoE.of {α:Type} {P:Program} {t e:TypeId} {E:Enc α} {z:Value} {n:Nat} (hu:P.underlying t=some (.slice e)) (h:(P.info? e).map (fun i=>(i.zero,i.size,i.bytes))=some (some z,E.k,n)) (hz:z.cells.size=E.k) (hn:n≤1000):InfoE P t e E:=by
 refine ⟨hu,?_⟩
 cases hi:P.info? e with
 | none=>rw [hi] at h;cases h
 | some i =>
   rw [hi] at h
   simp only [Option.map_some,Option.some.injEq,Prod.mk.injEq] at h
   exact ⟨i,z,n,rfl,h.1,h.2.1,h.2.2,hz,hn⟩
theorem wpList_append_el {α:Type} {E:Enc α} {P:Program} {ops:Array Oper} {rest:List Oper} {o:Oper} {a:Act} {w:World} {Q:Exit→Act→World→Prop} (hgd:o.guard=none) (s x:Operand) (t e:TypeId) (ho:o.op=.call { callee:=.builtin .append,args:=#[s,x],argTypes:=#[t,t] }) (HI:InfoE P t e E)
 (B:Nat) (L:List α) (y:α) (g:Nat) (hrow:w.ownsRow B e E.k (a.eval s) L.length (flat E L)) (hx:a.eval x=.slice (some ⟨g,0,none⟩) 1 1) (hc:ElAt E w g 0 y) (hB:B≤w.heap.size) (hL:L.length≤1000000)
 (h:∀ v' w',w'.ownsRow B e E.k v' (L++[y]).length (flat E (L++[y]))→Below B w w'→w.grownBy w' (a.eval s).ownBlock→wpList P ops Q rest (a.put o.dst v') w'):wpList P ops Q (o::rest) a w:=by
 obtain ⟨i,z,n,hi,hz,hs,hn,hzs,hb⟩:=HI.info
 refine wpList_append_own w hgd s x t ho B e i z E.k n HI.under hi hz hs hn hzs E.pos _ _ _ rfl hrow ⟨g,0,none⟩ 1 1 (E.cs y) hx (by rw [E.len,Nat.one_mul]) (fun j u hj=>by rw [add_off];exact hc j u hj) (E.one y) (by unfold maxLen;omega) ?_ hB ?_
 ·exact Nat.le_trans (Nat.mul_le_mul (Nat.add_le_add_right hL 1) hb) (by decide)
 ·intro v' w' h1 h2 _
  exact h v' w' (by rw [flat_append,flat_one,List.length_append];exact h1) (below_grown (Below.refl _ _) hB hrow h2) h2
theorem el_new {α:Type} (E:Enc α) (w:World) (y:α) (t:TypeId):ElAt E (w.alloc (.cells (E.cs y).toArray t)) w.heap.size 0 y:=(BoxE.new E w y t).at0
end Go.Proofs.YtdegffffcbhjbaaGreatDoor
end
section
namespace Go.Proofs.YtdegffffcbhjbaaGreatDoor.Un
open Go.RowKit
theorem no_snoc {α κ:Type} {key:α→κ} {L:List α} {k:κ} {i:Nat} {y:α} (h:∀ (j:Nat) (z:α),j < i→L[j]?=some z→key z≠k) (hy:L[i]?=some y) (he:key y≠k):∀ (j:Nat) (z:α),j < i+1→L[j]?=some z→key z≠k:=fun j z hj hz=>by
 rcases Nat.lt_or_ge j i with h' | h'
 ·exact h j z h' hz
 ·obtain rfl:j=i:=by omega
  rw [hy] at hz;cases hz;exact he
end Go.Proofs.YtdegffffcbhjbaaGreatDoor.Un
end
