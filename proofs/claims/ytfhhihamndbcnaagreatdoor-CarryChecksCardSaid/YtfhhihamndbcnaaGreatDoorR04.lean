/- LexFields LexBytes ChartPlain ChartLists -/
import Derived.Laws.RangeString
import Derived.Lib.Hide
import Derived.Lib.SlicesS
import Derived.Test.YtfhhihamndbcnaaGreatDoorProg
import Derived.WalkSmall
import Derived.WalkSpells
import Derived.Test.YtfhhihamndbcnaaGreatDoorR02
section
namespace Go.Proofs.YtfhhihamndbcnaaGreatDoor
def gapR (r:Nat):Bool:=r==9 || r==32
theorem gapR_byte (c:UInt8):gapR c.toNat=gapB c:=by
 unfold gapR gapB
 have e1:(c.toNat==9)=(c==9):=by
  rw [Bool.eq_iff_iff];simp [←UInt8.toNat_inj]
 have e2:(c.toNat==32)=(c==32):=by
  rw [Bool.eq_iff_iff];simp [←UInt8.toNat_inj]
 rw [e1,e2]
def pieceL (l:List UInt8) (x:Nat × Nat):List UInt8:=(l.drop x.1).take (x.2 - x.1)
def openL (l:List UInt8) (st:Option Nat) (pos:Nat):List UInt8:=match st with
 | some a=>pieceL l (a,pos)
 | none=>[]
theorem pieceL_ne (l:List UInt8) (a b:Nat) (h:a < b) (hb:b≤l.length):pieceL l (a,b)≠[]:=by
 intro h0
 have:=congrArg List.length h0
 simp [pieceL] at this
 omega
theorem pieceL_snoc (l:List UInt8) (a b:Nat) (h:a≤b) (hb:b < l.length):pieceL l (a,b)++[l[b]]=pieceL l (a,b+1):=by
 unfold pieceL
 have e:b+1 - a=(b - a)+1:=by omega
 rw [e,List.take_succ_eq_append_getElem (by simp;omega)]
 congr 2
 simp only [List.getElem_drop]
 congr 1
 omega
theorem spans_plain (s:ByteArray) (hs:∀ c∈s.data.toList,c.toNat < 128):∀ (f pos:Nat) (st:Option Nat) (acc:List (Nat × Nat)),s.size≤pos+f→pos≤s.size→(∀ a,st=some a→a < pos) →
 (Lib.closeSpans s (Lib.spansFromP gapR s f pos st acc)).map (pieceL s.data.toList)=acc.map (pieceL s.data.toList)++fieldsGo (openL s.data.toList st pos) (s.data.toList.drop pos)
 | 0,pos,st,acc,h,hp,hst=>by
   obtain rfl:pos=s.size:=by omega
   have hd:s.data.toList.drop s.size=[]:=List.drop_eq_nil_of_le (by rw [size_list];exact Nat.le_refl _)
   rw [hd]
   cases st with
   | none=>simp [Lib.spansFromP,Lib.closeSpans,openL,fieldsGo]
   | some a =>
     have:=pieceL_ne s.data.toList a s.size (hst a rfl) (by rw [size_list];exact Nat.le_refl _)
     simp [Lib.spansFromP,Lib.closeSpans,openL,fieldsGo,this]
 | f+1,pos,st,acc,h,hp,hst=>by
   by_cases hlt:pos < s.size
   ·have hl:pos < s.data.toList.length:=by rw [size_list];exact hlt
    have hget:s[pos]'hlt=s.data.toList[pos]'hl:=by simp [ByteArray.getElem_eq_getElem_data]
    have hdc:=decode_ascii s pos hlt (by rw [hget];exact hs _ (List.getElem_mem hl))
    rw [hget] at hdc
    have hdrop:s.data.toList.drop pos=s.data.toList[pos]::s.data.toList.drop (pos+1):=List.drop_eq_getElem_cons hl
    rw [hdrop]
    simp only [Lib.spansFromP,hlt,if_true,hdc,gapR_byte,fieldsGo]
    cases hg:gapB s.data.toList[pos] with
    | true =>
      cases st with
      | none =>
        simp only [if_true]
        rw [spans_plain s hs f (pos+1) none acc (by omega) (by omega) (fun a h=>by cases h)]
        simp [openL]
      | some a =>
        have hne:=pieceL_ne s.data.toList a pos (hst a rfl) (by omega)
        simp only [if_true]
        rw [spans_plain s hs f (pos+1) none _ (by omega) (by omega) (fun a h=>by cases h)]
        simp [openL,hne]
    | false =>
      cases st with
      | none =>
        simp only [Bool.false_eq_true,if_false]
        rw [spans_plain s hs f (pos+1) (some pos) acc (by omega) (by omega) (fun a h=>by cases h;omega)]
        simp only [openL]
        rw [←pieceL_snoc s.data.toList pos pos (Nat.le_refl _) hl]
        simp [pieceL]
      | some a =>
        have ha:=hst a rfl
        simp only [Bool.false_eq_true,if_false]
        rw [spans_plain s hs f (pos+1) (some a) acc (by omega) (by omega) (fun b h=>by cases h;omega)]
        simp only [openL]
        rw [←pieceL_snoc s.data.toList a pos (by omega) hl]
   ·obtain rfl:pos=s.size:=by omega
    have hd:s.data.toList.drop s.size=[]:=List.drop_eq_nil_of_le (by rw [size_list];exact Nat.le_refl _)
    rw [hd,Lib.spansFromP_end _ _ _ _ _ _ hlt]
    cases st with
    | none=>simp [Lib.closeSpans,openL,fieldsGo]
    | some a =>
      have:=pieceL_ne s.data.toList a s.size (hst a rfl) (by rw [size_list];exact Nat.le_refl _)
      simp [Lib.closeSpans,openL,fieldsGo,this]
theorem fields_plain (s:ByteArray) (hs:∀ c∈s.data.toList,c.toNat < 128):Lib.goFieldsP gapR s=(fieldsGo [] s.data.toList).map mkB:=by
 have h:=spans_plain s hs s.size 0 none [] (by omega) (Nat.zero_le _) (fun a h=>by cases h)
 simp only [List.map_nil,List.nil_append,openL,List.drop_zero] at h
 rw [←h,List.map_map]
 unfold Lib.goFieldsP Lib.spansOfP
 apply List.map_congr_left
 intro x _
 exact piece_mid s x.1 x.2
end Go.Proofs.YtfhhihamndbcnaaGreatDoor
end
section
namespace Go.Proofs.YtfhhihamndbcnaaGreatDoor
open Go.RowKit
def letB (n:Nat):Bool:=decide (97≤n∧n≤122∨65≤n∧n≤90)
def inB (n:Nat):Bool:=decide ((97≤n∧n≤122∨65≤n∧n≤90)∨48≤n∧n≤57∨n=46∨n=95∨n=45)
def nameL (l:List UInt8):Bool:=decide (1≤l.length∧l.length≤12) && letB (l.headD 0).toNat && l.all fun c=>inB c.toNat
theorem ret_bdec {p:Prop} [Decidable p] {b:Bool} (h:b=true ↔ p):Ending.returned (.bool b)=.returned (.bool (decide p)):=by
 congr 2;rw [Bool.eq_iff_iff];simpa using h
set_option maxHeartbeats 400000 in
theorem letter_any (n:Nat) (w:World) (hn:n < 256):Calls Tryz.prog 152 #[.int .u8 (n:Int)] w fun e w'=>e=.returned (.bool (letB n))∧w=w':=by
 go_enter Tryz.func152,Tryz.ntmps152
 go_wp2
 all_goals
  go_ret
  exact ⟨ret_bdec (by first | omega | (simp;omega)),rfl⟩
set_option maxHeartbeats 400000 in
theorem rletter_any (n:Nat) (w:World) (hn:n < 256):Calls Tryz.prog 177 #[.int .u8 (n:Int)] w fun e w'=>e=.returned (.bool (letB n))∧w=w':=by
 go_enter Tryz.func177,Tryz.ntmps177
 go_wp2
 all_goals
  go_ret
  exact ⟨ret_bdec (by first | omega | (simp;omega)),rfl⟩
set_option maxHeartbeats 400000 in
theorem between_any (n:Nat) (w:World) (hn:n≤1114111):Calls Tryz.prog 98 #[.int .i32 (n:Int)] w fun e w'=>e=.returned (.bool (gapR n))∧w=w':=by
 have e1:gapR n=decide (n=9∨n=32):=by unfold gapR;rw [Bool.eq_iff_iff];simp
 rw [e1]
 clear e1
 go_enter Tryz.func98,Tryz.ntmps98
 go_wp2
 all_goals
  go_ret
  exact ⟨ret_bdec (by first | omega | (simp;omega)),rfl⟩
set_option maxHeartbeats 400000 in
theorem inName_any (n:Nat) (w:World) (hn:n < 256):Calls Tryz.prog 153 #[.int .u8 (n:Int)] w fun e w'=>e=.returned (.bool (inB n))∧w=w':=by
 cases hl:letB n with
 | true =>
   have H:=Lib.hid hl
   have hp:97≤n∧n≤122∨65≤n∧n≤90:=of_decide_eq_true hl
   clear hl
   go_enter Tryz.func153,Tryz.ntmps153
   go_wp2_with fail
   refine (letter_any n _ hn).mono ?_
   rintro e w' ⟨rfl,rfl⟩
   rw [H.out]
   go_wp2
   all_goals
    go_ret
    exact ⟨ret_bdec (by first | omega | (simp;omega)),rfl⟩
 | false =>
   have H:=Lib.hid hl
   have hp:¬ (97≤n∧n≤122∨65≤n∧n≤90):=of_decide_eq_false hl
   clear hl
   go_enter Tryz.func153,Tryz.ntmps153
   go_wp2_with fail
   refine (letter_any n _ hn).mono ?_
   rintro e w' ⟨rfl,rfl⟩
   rw [H.out]
   go_wp2
   all_goals
    go_ret
    exact ⟨ret_bdec (by first | omega | (simp;omega)),rfl⟩
theorem all_take (p:UInt8→Bool) (s:ByteArray) (k:Nat) (h:k < s.size):(s.data.toList.take (k+1)).all p=((s.data.toList.take k).all p && p s[k]):=by
 rw [List.take_succ_eq_append_getElem (by rw [size_list];exact h),List.all_append];simp;rfl
theorem all_no (p:UInt8→Bool) (s:ByteArray) (k:Nat) (h:k < s.size) (hp:p s[k]=false):s.data.toList.all p=false:=by
 cases h':s.data.toList.all p with
 | false=>rfl
 | true =>
   have:=List.all_eq_true.1 h' s[k] (by
    have:s[k]=s.data.toList[k]'(by rw [size_list];exact h):=by simp [ByteArray.getElem_eq_getElem_data]
    rw [this];exact List.getElem_mem _)
   rw [←hp];exact this.symm
theorem all_end (p:UInt8→Bool) (s:ByteArray) (k:Nat) (h:¬ k < s.size) (hk:k≤s.size) (ha:(s.data.toList.take k).all p=true):s.data.toList.all p=true:=by
 rwa [List.take_of_length_le (by rw [size_list];omega)] at ha
theorem head_at (s:ByteArray) (h:0 < s.size):s.data.toList.headD 0=s[0]:=by
 have:s[0]=s.data.toList[0]'(by rw [size_list];exact h):=by simp [ByteArray.getElem_eq_getElem_data]
 rw [this,List.headD_eq_head?_getD,List.head?_eq_getElem?,List.getElem?_eq_getElem (by rw [size_list];exact h)]
 rfl
theorem nameL_eq (s:ByteArray) (h:0 < s.size) (h2:s.size≤12):nameL s.data.toList=(letB s[0].toNat && s.data.toList.all fun c=>inB c.toNat):=by
 unfold nameL
 rw [head_at s h,size_list]
 have:decide (1≤s.size∧s.size≤12)=true:=decide_eq_true (by omega)
 rw [this];rfl
theorem nameL_len (s:ByteArray) (h:¬ (0 < s.size∧s.size≤12)):nameL s.data.toList=false:=by
 unfold nameL
 rw [size_list]
 have:decide (1≤s.size∧s.size≤12)=false:=decide_eq_false (by omega)
 rw [this];rfl
set_option maxHeartbeats 1000000 in
theorem name_at (s:ByteArray) (w:World) :
 Calls Tryz.prog 115 #[.string s] w fun e w'=>e=.returned (.bool (nameL s.data.toList))∧w=w':=by
 by_cases hl:0 < s.size∧s.size≤12
 ·obtain ⟨h0,h12⟩:=hl
  have HN:=Lib.hid (nameL_eq s h0 h12)
  cases hf:letB s[0].toNat with
  | false =>
    have HF:=Lib.hid hf
    clear hf
    have HR:Hid (nameL s.data.toList=false):=Lib.hid (by rw [HN.out,HF.out];rfl)
    have a1:¬ s.size < 1:=by omega
    have a2:¬ 12 < s.size:=by omega
    go_enter Tryz.func115,Tryz.ntmps115
    go_wp2_with fail
    refine (letter_any _ _ (UInt8.toNat_lt _)).mono ?_
    rintro e w' ⟨rfl,rfl⟩
    rw [HF.out]
    go_wp2
    go_ret
    exact ⟨ret_bool HR.out.symm,rfl⟩
  | true =>
    have HF:=Lib.hid hf
    clear hf
    have HR:Hid (nameL s.data.toList=s.data.toList.all fun c=>inB c.toNat):=Lib.hid (by rw [HN.out,HF.out];rfl)
    clear HN
    have a1:¬ s.size < 1:=by omega
    have a2:¬ 12 < s.size:=by omega
    go_enter Tryz.func115,Tryz.ntmps115
    go_wp2_with fail
    refine (letter_any _ _ (UInt8.toNat_lt _)).mono ?_
    rintro e w' ⟨rfl,rfl⟩
    rw [HF.out]
    go_wp2
    go_loop [20] (fun i=>∃ k:Nat,k≤s.size∧i=.int .i64 k∧(s.data.toList.take k).all (fun c=>inB c.toNat)=true) (fun i=>s.size - (intOf i).toNat)
    case atStart=>exact ⟨0,Nat.zero_le _,rfl,rfl⟩
    case round =>
     obtain ⟨k,hk,rfl,hd⟩:=hrel
     have HD:=Lib.hid hd
     clear hd
     by_cases hlt:k < s.size
     ·cases hc:inB s[k].toNat with
      | true =>
        have HC:=Lib.hid hc
        clear hc
        go_wp2_with fail
        refine (inName_any _ _ (UInt8.toNat_lt _)).mono ?_
        rintro e w' ⟨rfl,rfl⟩
        rw [HC.out]
        go_wp2
        go_round
        case rel=>exact ⟨k+1,by omega,by go_num,by rw [all_take _ s k hlt,HD.out,HC.out];rfl⟩
        case measure=>simp [intOf];omega
      | false =>
        have HC:=Lib.hid hc
        clear hc
        go_wp2_with fail
        refine (inName_any _ _ (UInt8.toNat_lt _)).mono ?_
        rintro e w' ⟨rfl,rfl⟩
        rw [HC.out]
        go_wp2
        go_ret
        exact ⟨ret_bool (by rw [HR.out,all_no _ s k hlt HC.out]),rfl⟩
     ·go_wp2
      go_ret
      exact ⟨ret_bool (by rw [HR.out,all_end _ s k hlt hk HD.out]),rfl⟩
 ·have HR:=Lib.hid (nameL_len s hl)
  rcases (by omega:s.size < 1∨(¬ s.size < 1∧12 < s.size)) with a1 | ⟨a1,a2⟩
  ·clear hl
   go_enter Tryz.func115,Tryz.ntmps115
   go_wp2
   go_ret
   exact ⟨ret_bool HR.out.symm,rfl⟩
  ·clear hl
   go_enter Tryz.func115,Tryz.ntmps115
   go_wp2
   go_ret
   exact ⟨ret_bool HR.out.symm,rfl⟩
theorem okB_dec (c:UInt8):okB c=decide (c.toNat=9∨c.toNat=10∨32≤c.toNat∧c.toNat≤126):=by
 unfold okB
 rw [Bool.eq_iff_iff]
 simp [←UInt8.toNat_inj]
 omega
set_option maxHeartbeats 1000000 in
theorem readable_any (s:ByteArray) (w:World) (hs:s.size≤maxLen) :
 Calls Tryz.prog 61 #[.string s] w fun e w'=>e=.returned (.bool (okL s.data.toList))∧w=w':=by
 unfold maxLen at hs
 go_enter Tryz.func61,Tryz.ntmps61
 go_wp2
 go_loop [7] (fun i=>∃ k:Nat,k≤s.size∧i=.int .i64 k∧(s.data.toList.take k).all okB=true) (fun i=>s.size - (intOf i).toNat)
 case atStart=>exact ⟨0,Nat.zero_le _,rfl,rfl⟩
 case round =>
  obtain ⟨k,hk,rfl,hd⟩:=hrel
  have HD:=Lib.hid hd
  clear hd
  by_cases hlt:k < s.size
  ·have HO:=Lib.hid (okB_dec s[k])
   have hb:s[k].toNat < 256:=UInt8.toNat_lt _
   go_wp2
   all_goals first
    | (go_ret
       exact ⟨ret_bool (show false=okL s.data.toList from (all_no okB s k hlt (by rw [HO.out];exact decide_eq_false (by omega))).symm),rfl⟩)
    | (go_round
       case rel=>exact ⟨k+1,by omega,by go_num,by rw [all_take okB s k hlt,HD.out,HO.out];exact decide_eq_true (by first | omega | (simp only [bne_eq_false_iff_eq] at *;omega))⟩
       case measure=>simp [intOf];omega)
  ·go_wp2
   go_ret
   exact ⟨ret_bool (all_end _ s k hlt hk HD.out).symm,rfl⟩
end Go.Proofs.YtfhhihamndbcnaaGreatDoor
end
section
namespace Go.Proofs.YtfhhihamndbcnaaGreatDoor
open Go.RowKit
structure Acct where
 code:ByteArray
 cls:Int
 cash:Bool
 both:Bool
 fixed:ByteArray
 worn:Bool
theorem Acct.ext' {a b:Acct} (h0:a.code=b.code) (h1:a.cls=b.cls) (h2:a.cash=b.cash) (h3:a.both=b.both) (h4:a.fixed=b.fixed) (h5:a.worn=b.worn):a=b:=by
 cases a;cases b;simp_all
instance : DecidableEq Acct:=fun a b =>
 if h:a.code=b.code∧a.cls=b.cls∧a.cash=b.cash∧a.both=b.both∧a.fixed=b.fixed∧a.worn=b.worn then isTrue (Acct.ext' h.1 h.2.1 h.2.2.1 h.2.2.2.1 h.2.2.2.2.1 h.2.2.2.2.2)
 else isFalse fun e=>h (by subst e;exact ⟨rfl,rfl,rfl,rfl,rfl,rfl⟩)
def Acct.cells (a:Acct):List Value:=[.string a.code,.int .i64 a.cls,.bool a.cash,.bool a.both,.string a.fixed,.bool a.worn]
def zeroA:Acct:=⟨⟨#[]⟩,0,false,false,⟨#[]⟩,false⟩
def nmB (s:ByteArray):Bool:=nameL s.data.toList
def neB (s:ByteArray):Bool:=!s.toList.isEmpty
theorem neB_empty:neB ⟨#[]⟩=false:=by unfold neB;rw [ByteArray.toList_eq];rfl
theorem neB_iff (s:ByteArray):neB s=true ↔ s≠⟨#[]⟩:=by
 unfold neB
 constructor
 ·intro h e;subst e;rw [ByteArray.toList_eq] at h;cases h
 ·intro h
  cases hs:s.toList.isEmpty with
  | false=>rfl
  | true =>
    refine absurd ?_ h
    obtain ⟨⟨l⟩⟩:=s
    rw [ByteArray.toList_eq] at hs
    simp at hs
    subst hs
    rfl
def marksA (a:Acct):Bool :=
 if (neB a.fixed && !nmB a.fixed)=true then false
 else if (a.worn && !neB a.fixed)=true then false
 else if (a.cash && neB a.fixed)=true then false
 else if (a.cash && a.both)=true then false
 else if (neB a.fixed && a.both)=true then false
 else if (a.cash || neB a.fixed)=true then (a.cls==0)
 else if a.both=true then (a.cls != 2)
 else true
def rightA (a:Acct):Bool:=nmB a.code && decide (0≤a.cls) && decide (a.cls < 3) && marksA a
def tAccount:ByteArray:=⟨#[97,99,99,111,117,110,116]⟩
def tAsset:ByteArray:=⟨#[97,115,115,101,116]⟩
def tLiability:ByteArray:=⟨#[108,105,97,98,105,108,105,116,121]⟩
def tEquity:ByteArray:=⟨#[101,113,117,105,116,121]⟩
def tCash:ByteArray:=⟨#[99,97,115,104]⟩
def tMutual:ByteArray:=⟨#[109,117,116,117,97,108]⟩
def tWorn:ByteArray:=⟨#[119,111,114,110]⟩
def tFixed:ByteArray:=⟨#[102,105,120,101,100]⟩
def clsW (n:Int):ByteArray:=if n=0 then tAsset else if n=1 then tLiability else tEquity
def markW (a:Acct):List ByteArray:=if a.cash=true then [tCash] else if a.both=true then [tMutual] else if a.worn=true then [tWorn,a.fixed] else if neB a.fixed=true then [tFixed,a.fixed] else []
def wordsA (a:Acct):List ByteArray:=if rightA a=true then tAccount::a.code::clsW a.cls::markW a else []
def clsOf (s:ByteArray):Int:=if s=tAsset then 0 else if s=tLiability then 1 else if s=tEquity then 2 else -1
def markedA (a:Acct):List ByteArray→Acct
 | [x]=>{ a with cash:=decide (x=tCash),both:=decide (x=tMutual) }
 | [x,y]=>{ a with fixed:=y,worn:=decide (x=tWorn) }
 | _=>a
def candA (ws:List ByteArray):Acct:=markedA ⟨ws.getD 1 ⟨#[]⟩,clsOf (ws.getD 2 ⟨#[]⟩),false,false,⟨#[]⟩,false⟩ (ws.drop 3)
def parseA (ws:List ByteArray):Acct × Int:=if ws.length < 3 then (zeroA,5) else if wordsA (candA ws)=ws then (candA ws,0) else (zeroA,5)
theorem right_parts {a:Acct} (h:rightA a=true):nmB a.code=true∧(a.cls=0∨a.cls=1∨a.cls=2)∧marksA a=true:=by
 unfold rightA at h
 simp only [Bool.and_eq_true,decide_eq_true_eq] at h
 obtain ⟨⟨⟨h1,h2⟩,h3⟩,h4⟩:=h
 exact ⟨h1,by omega,h4⟩
theorem marks_ways {a:Acct} (h:marksA a=true) :
 (a.cash=false∧a.both=false∧a.fixed=⟨#[]⟩∧a.worn=false) ∨
 (a.cash=true∧a.both=false∧a.fixed=⟨#[]⟩∧a.worn=false∧a.cls=0) ∨
 (a.cash=false∧a.both=true∧a.fixed=⟨#[]⟩∧a.worn=false∧a.cls≠2) ∨
 (a.cash=false∧a.both=false∧nmB a.fixed=true∧neB a.fixed=true∧a.worn=false∧a.cls=0) ∨
 (a.cash=false∧a.both=false∧nmB a.fixed=true∧neB a.fixed=true∧a.worn=true∧a.cls=0):=by
 obtain ⟨co,cl,ca,mu,fi,wo⟩:=a
 unfold marksA at h
 simp only at h ⊢
 by_cases hf:fi=⟨#[]⟩
 ·subst hf
  rw [neB_empty] at h ⊢
  cases ca <;> cases mu <;> cases wo <;> simp_all
 ·have hn:=(neB_iff fi).2 hf
  rw [hn] at h ⊢
  cases hm:nmB fi <;> cases ca <;> cases mu <;> cases wo <;> simp_all
theorem clsOf_clsW {n:Int} (h:n=0∨n=1∨n=2):clsOf (clsW n)=n:=by
 rcases h with rfl | rfl | rfl <;> decide
theorem parse_words {a:Acct} (h:rightA a=true):parseA (wordsA a)=(a,0):=by
 obtain ⟨h1,h2,h3⟩:=right_parts h
 have hw:wordsA a=tAccount::a.code::clsW a.cls::markW a:=by unfold wordsA;rw [if_pos h]
 have hc:candA (wordsA a)=a:=by
  rw [hw]
  unfold candA
  simp only [List.getD_cons_succ,List.getD_cons_zero,List.drop_succ_cons,List.drop_zero]
  rw [clsOf_clsW h2]
  have t1:decide (tCash=tMutual)=false:=by decide
  have t2:decide (tMutual=tCash)=false:=by decide
  have t3:decide (tFixed=tWorn)=false:=by decide
  rcases marks_ways h3 with ⟨e1,e2,e3,e4⟩ | ⟨e1,e2,e3,e4,e5⟩ | ⟨e1,e2,e3,e4,e5⟩ | ⟨e1,e2,e3,e6,e4,e5⟩ | ⟨e1,e2,e3,e6,e4,e5⟩ <;>
   obtain ⟨co,cl,ca,mu,fi,wo⟩:=a <;> simp only at e1 e2 e3 e4 ⊢ <;> subst e1 e2 e4
  ·subst e3;simp [markW,markedA,neB_empty]
  ·subst e3;simp [markW,markedA,t1]
  ·subst e3;simp [markW,markedA,t2]
  ·simp only at e6;simp [markW,markedA,e6,t3]
  ·simp [markW,markedA]
 unfold parseA
 rw [hc,if_neg (by rw [hw];simp),if_pos rfl]
theorem words_nil {a:Acct} (h:rightA a=false):wordsA a=[]:=by unfold wordsA;rw [h];rfl
theorem parse_ok {ws:List ByteArray} (h:(parseA ws).2=0):wordsA (parseA ws).1=ws∧rightA (parseA ws).1=true:=by
 unfold parseA at h ⊢
 by_cases h3:ws.length < 3
 ·rw [if_pos h3] at h;simp at h
 ·rw [if_neg h3] at h ⊢
  by_cases hw:wordsA (candA ws)=ws
  ·rw [if_pos hw]
   refine ⟨hw,?_⟩
   cases hr:rightA (candA ws) with
   | true=>rfl
   | false =>
     rw [words_nil hr] at hw
     subst hw
     simp at h3
  ·rw [if_neg hw] at h;simp at h
theorem parse_err (ws:List ByteArray):parseA ws=(zeroA,5)∨(wordsA (parseA ws).1=ws∧rightA (parseA ws).1=true∧(parseA ws).2=0):=by
 by_cases h:(parseA ws).2=0
 ·exact .inr ⟨(parse_ok h).1,(parse_ok h).2,h⟩
 ·left
  unfold parseA at h ⊢
  split
  ·rfl
  ·split
   ·rename_i h1 h2;rw [if_neg h1,if_pos h2] at h;exact absurd rfl h
   ·rfl
theorem parse_of {a:Acct} {ws:List ByteArray} (hr:rightA a=true) (h:wordsA a=ws):parseA ws=(a,0):=by rw [←h];exact parse_words hr
def ltS (x y:ByteArray):Bool:=Op.bytesLess x.toList y.toList
theorem less_iff:∀ (x y:List UInt8),Op.bytesLess x y=true ↔ x < y
 | [],[]=>by simp [Op.bytesLess]
 | [],_::_=>by simp [Op.bytesLess]
 | _::_,[]=>by simp [Op.bytesLess]
 | a::x,b::y=>by
   have ih:=less_iff x y
   rw [List.cons_lt_cons_iff]
   unfold Op.bytesLess
   by_cases h:a=b
   ·subst h;simp [ih]
   ·simp [h]
theorem ltS_iff (x y:ByteArray):ltS x y=true ↔ x.toList < y.toList:=by unfold ltS;exact less_iff _ _
theorem toList_inj {x y:ByteArray} (h:x.toList=y.toList):x=y:=by
 rw [ByteArray.toList_eq,ByteArray.toList_eq] at h
 obtain ⟨⟨a⟩⟩:=x;obtain ⟨⟨b⟩⟩:=y
 simp at h;rw [h]
theorem ltS_trans {x y z:ByteArray} (h1:ltS x y=true) (h2:ltS y z=true):ltS x z=true:=by
 rw [ltS_iff] at *;exact List.lt_trans h1 h2
theorem ltS_irr (x:ByteArray):ltS x x=false:=by
 cases h:ltS x x with
 | false=>rfl
 | true=>rw [ltS_iff] at h;exact absurd h (List.lt_irrefl _)
theorem ltS_asymm {x y:ByteArray} (h:ltS x y=true):ltS y x=false:=by
 cases h':ltS y x with
 | false=>rfl
 | true=>rw [←ltS_irr x];exact (ltS_trans h h').symm
theorem less_total:∀ (x y:List UInt8),Op.bytesLess x y=false→x≠y→Op.bytesLess y x=true
 | [],[],_,h=>absurd rfl h
 | [],_::_,h,_=>by simp [Op.bytesLess] at h
 | _::_,[],_,_=>by simp [Op.bytesLess]
 | a::x,b::y,h,hne=>by
   unfold Op.bytesLess at h ⊢
   simp only [Bool.or_eq_false_iff,decide_eq_false_iff_not,Bool.and_eq_false_iff,beq_eq_false_iff_ne,Bool.or_eq_true,decide_eq_true_eq,Bool.and_eq_true,beq_iff_eq] at h ⊢
   by_cases hab:a=b
   ·subst hab
    refine .inr ⟨rfl,less_total x y ?_ (fun e=>hne (by rw [e]))⟩
    rcases h.2 with h' | h'
    ·exact absurd rfl h'
    ·exact h'
   ·left
    rw [UInt8.lt_iff_toNat_lt] at h ⊢
    have:a.toNat≠b.toNat:=fun e=>hab (UInt8.toNat_inj.1 e)
    omega
theorem ltS_total {x y:ByteArray} (h:ltS x y=false) (hne:x≠y):ltS y x=true:=less_total _ _ h (fun e=>hne (toList_inj e))
end Go.Proofs.YtfhhihamndbcnaaGreatDoor
end
section
namespace Go.Proofs.YtfhhihamndbcnaaGreatDoor
open Go.RowKit
def gtS (x y:ByteArray):Bool:=!(ltS x y || x.toList==y.toList)
theorem gtS_iff (x y:ByteArray):gtS x y=true ↔ ltS y x=true:=by
 unfold gtS
 constructor
 ·intro h
  simp only [Bool.not_eq_true',Bool.or_eq_false_iff] at h
  exact ltS_total h.1 (fun e=>by subst e;simp at h)
 ·intro h
  rw [ltS_asymm h]
  have:(x.toList==y.toList)=false:=by
   cases e:x.toList==y.toList with
   | false=>rfl
   | true =>
     have:=toList_inj (eq_of_beq e)
     subst this
     rw [ltS_irr] at h;cases h
  rw [this];rfl
theorem gtS_no {x y:ByteArray} (h:gtS x y=false) (hne:x≠y):ltS x y=true:=by
 cases h':ltS x y with
 | true=>rfl
 | false=>rw [(gtS_iff x y).2 (ltS_total h' hne)] at h;cases h
def findL:List Acct→ByteArray→Option Acct
 | [],_=>none
 | a::L,c=>if a.code=c then some a else findL L c
def belowL:List Acct→ByteArray→Nat
 | [],_=>0
 | a::L,c=>if gtS a.code c=true then 0 else belowL L c+1
def insL:List Acct→Acct→List Acct
 | [],x=>[x]
 | a::L,x=>if gtS a.code x.code=true then x::a::L else a::insL L x
def addE (L:List Acct) (a:Acct):Int:=if rightA a=false then 1 else if (findL L a.code).isSome=true then 7 else if 60≤L.length then 4 else 0
def addV (L:List Acct) (a:Acct):List Acct:=if addE L a=0 then insL L a else L
def riseL:List Acct→Bool
 | a::b::L=>ltS a.code b.code && riseL (b::L)
 | _=>true
theorem belowL_le (L:List Acct) (c:ByteArray):belowL L c≤L.length:=by
 induction L with
 | nil=>exact Nat.le_refl _
 | cons a L ih=>simp only [belowL];split <;> simp;omega
theorem insL_eq (L:List Acct) (x:Acct):insL L x=L.take (belowL L x.code)++x::L.drop (belowL L x.code):=by
 induction L with
 | nil=>rfl
 | cons a L ih =>
   simp only [insL,belowL]
   split
   ·rfl
   ·rw [ih];simp
theorem insL_length (L:List Acct) (x:Acct):(insL L x).length=L.length+1:=by
 induction L with
 | nil=>rfl
 | cons a L ih=>simp only [insL];split <;> simp [ih]
theorem addE_zero {L:List Acct} {a:Acct} (h:addE L a=0):rightA a=true∧findL L a.code=none∧L.length < 60:=by
 unfold addE at h
 cases hr:rightA a with
 | false=>rw [hr] at h;simp at h
 | true =>
   rw [hr] at h
   simp only [Bool.true_eq_false,if_false] at h
   cases hf:findL L a.code with
   | some x=>rw [hf] at h;simp at h
   | none =>
     rw [hf] at h
     simp only [Option.isSome_none,Bool.false_eq_true,if_false] at h
     refine ⟨rfl,rfl,?_⟩
     split at h
     ·simp at h
     ·omega
theorem find_mem {L:List Acct} {c:ByteArray} {x:Acct} (h:findL L c=some x):x.code=c∧x∈L:=by
 induction L with
 | nil=>cases h
 | cons a L ih =>
   simp only [findL] at h
   split at h
   ·cases h;exact ⟨by assumption,List.mem_cons_self⟩
   ·exact ⟨(ih h).1,List.mem_cons_of_mem _ (ih h).2⟩
theorem rise_tail {a:Acct} {L:List Acct} (h:riseL (a::L)=true):riseL L=true:=by
 cases L with
 | nil=>rfl
 | cons b L=>simp only [riseL,Bool.and_eq_true] at h;exact h.2
theorem rise_ins (L:List Acct) (x:Acct) (hr:riseL L=true) (h:findL L x.code=none):riseL (insL L x)=true:=by
 induction L with
 | nil=>rfl
 | cons a L ih =>
   simp only [findL] at h
   split at h
   ·cases h
   ·rename_i hne
    simp only [insL]
    split
    ·rename_i hg
     simp only [riseL,Bool.and_eq_true]
     exact ⟨(gtS_iff _ _).1 hg,hr⟩
    ·rename_i hg
     have hlt:ltS a.code x.code=true:=gtS_no (by simpa using hg) hne
     have ih':=ih (rise_tail hr) h
     cases L with
     | nil=>simp [insL,riseL,hlt]
     | cons b L =>
       simp only [insL] at ih' ⊢
       split
       ·rename_i hg2
        rw [if_pos hg2] at ih'
        simp only [riseL,Bool.and_eq_true] at ih' ⊢
        exact ⟨hlt,ih'⟩
       ·rename_i hg2
        rw [if_neg hg2] at ih'
        simp only [riseL,Bool.and_eq_true] at hr
        cases hL:insL L x with
        | nil=>simp [riseL,hr.1]
        | cons c M =>
          rw [hL] at ih'
          simp only [riseL,Bool.and_eq_true] at ih' ⊢
          exact ⟨hr.1,ih'⟩
theorem find_at {L:List Acct} {c:ByteArray} {i:Nat} {x:Acct} (hb:∀ (j:Nat) (y:Acct),j < i→L[j]?=some y→y.code≠c) (hx:L[i]?=some x) (h:x.code=c):findL L c=some x:=by
 induction L generalizing i with
 | nil=>simp at hx
 | cons a L ih =>
   cases i with
   | zero=>simp at hx;subst hx;simp [findL,h]
   | succ i =>
     have h0:=hb 0 a (by omega) rfl
     simp only [findL,if_neg h0]
     exact ih (i:=i) (fun j y hj hy=>hb (j+1) y (by omega) (by simpa using hy)) (by simpa using hx)
theorem find_none {L:List Acct} {c:ByteArray} (h:∀ (j:Nat) (y:Acct),L[j]?=some y→y.code≠c):findL L c=none:=by
 induction L with
 | nil=>rfl
 | cons a L ih =>
   simp only [findL,if_neg (h 0 a rfl)]
   exact ih fun j y hy=>h (j+1) y (by simpa using hy)
theorem below_at {L:List Acct} {c:ByteArray} {i:Nat} {x:Acct} (hb:∀ (j:Nat) (y:Acct),j < i→L[j]?=some y→gtS y.code c=false) (hx:L[i]?=some x) (h:gtS x.code c=true):belowL L c=i:=by
 induction L generalizing i with
 | nil=>simp at hx
 | cons a L ih =>
   cases i with
   | zero=>simp at hx;subst hx;simp [belowL,h]
   | succ i =>
     have h0:=hb 0 a (by omega) rfl
     simp only [belowL,h0,Bool.false_eq_true,if_false]
     rw [ih (i:=i) (fun j y hj hy=>hb (j+1) y (by omega) (by simpa using hy)) (by simpa using hx)]
theorem below_none {L:List Acct} {c:ByteArray} (h:∀ (j:Nat) (y:Acct),L[j]?=some y→gtS y.code c=false):belowL L c=L.length:=by
 induction L with
 | nil=>rfl
 | cons a L ih =>
   simp only [belowL,h 0 a rfl,Bool.false_eq_true,if_false]
   rw [ih fun j y hy=>h (j+1) y (by simpa using hy)]
   rfl
end Go.Proofs.YtfhhihamndbcnaaGreatDoor
end
