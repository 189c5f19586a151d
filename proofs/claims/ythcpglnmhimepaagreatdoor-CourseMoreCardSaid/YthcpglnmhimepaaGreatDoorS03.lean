/- ChartPlain ChartLists Sorted Mem LexMem Els FlowPlain ChartMem ChartNew -/
import Derived.Deep.Draws
import Derived.Deep.WholeRow
import Derived.Laws.AppendOwnNone
import Derived.Laws.Tables
import Derived.Lib.SlicesS
import Derived.RangeFuncBox
import Derived.Test.YthcpglnmhimepaaGreatDoorS02
section
namespace Go.Proofs.YthcpglnmhimepaaGreatDoor
open Go.RowKit
structure Acct where
 code:ByteArray
 cls:Int
 cash:Bool
 both:Bool
 fixed:ByteArray
 worn:Bool
theorem Acct.ext' {a b:Acct} (h0:a.code=b.code) (h1:a.cls=b.cls) (h2:a.cash=b.cash) (h3:a.both=b.both) (h4:a.fixed=b.fixed) (h5:a.worn=b.worn):a=b:=by
 cases a;cases b;simp_all
instance : DecidableEq Acct:=fun a b =>
 if h:a.code=b.code∧a.cls=b.cls∧a.cash=b.cash∧a.both=b.both∧a.fixed=b.fixed∧a.worn=b.worn then isTrue (Acct.ext' h.1 h.2.1 h.2.2.1 h.2.2.2.1 h.2.2.2.2.1 h.2.2.2.2.2)
 else isFalse fun e=>h (by subst e;exact ⟨rfl,rfl,rfl,rfl,rfl,rfl⟩)
def Acct.cells (a:Acct):List Value:=[.string a.code,.int .i64 a.cls,.bool a.cash,.bool a.both,.string a.fixed,.bool a.worn]
def zeroA:Acct:=⟨⟨#[]⟩,0,false,false,⟨#[]⟩,false⟩
def nmB (s:ByteArray):Bool:=nameL s.data.toList
def neB (s:ByteArray):Bool:=!s.toList.isEmpty
theorem neB_empty:neB ⟨#[]⟩=false:=by unfold neB;rw [ByteArray.toList_eq];rfl
theorem neB_iff (s:ByteArray):neB s=true ↔ s≠⟨#[]⟩:=by
 unfold neB
 constructor
 ·intro h e;subst e;rw [ByteArray.toList_eq] at h;cases h
 ·intro h
  cases hs:s.toList.isEmpty with
  | false=>rfl
  | true =>
    refine absurd ?_ h
    obtain ⟨⟨l⟩⟩:=s
    rw [ByteArray.toList_eq] at hs
    simp at hs
    subst hs
    rfl
def marksA (a:Acct):Bool :=
 if (neB a.fixed && !nmB a.fixed)=true then false
 else if (a.worn && !neB a.fixed)=true then false
 else if (a.cash && neB a.fixed)=true then false
 else if (a.cash && a.both)=true then false
 else if (neB a.fixed && a.both)=true then false
 else if (a.cash || neB a.fixed)=true then (a.cls==0)
 else if a.both=true then (a.cls != 2)
 else true
def rightA (a:Acct):Bool:=nmB a.code && decide (0≤a.cls) && decide (a.cls < 3) && marksA a
def tAccount:ByteArray:=⟨#[97,99,99,111,117,110,116]⟩
def tAsset:ByteArray:=⟨#[97,115,115,101,116]⟩
def tLiability:ByteArray:=⟨#[108,105,97,98,105,108,105,116,121]⟩
def tEquity:ByteArray:=⟨#[101,113,117,105,116,121]⟩
def tCash:ByteArray:=⟨#[99,97,115,104]⟩
def tMutual:ByteArray:=⟨#[109,117,116,117,97,108]⟩
def tWorn:ByteArray:=⟨#[119,111,114,110]⟩
def tFixed:ByteArray:=⟨#[102,105,120,101,100]⟩
def clsW (n:Int):ByteArray:=if n=0 then tAsset else if n=1 then tLiability else tEquity
def markW (a:Acct):List ByteArray:=if a.cash=true then [tCash] else if a.both=true then [tMutual] else if a.worn=true then [tWorn,a.fixed] else if neB a.fixed=true then [tFixed,a.fixed] else []
def wordsA (a:Acct):List ByteArray:=if rightA a=true then tAccount::a.code::clsW a.cls::markW a else []
def clsOf (s:ByteArray):Int:=if s=tAsset then 0 else if s=tLiability then 1 else if s=tEquity then 2 else -1
def markedA (a:Acct):List ByteArray→Acct
 | [x]=>{ a with cash:=decide (x=tCash),both:=decide (x=tMutual) }
 | [x,y]=>{ a with fixed:=y,worn:=decide (x=tWorn) }
 | _=>a
def candA (ws:List ByteArray):Acct:=markedA ⟨ws.getD 1 ⟨#[]⟩,clsOf (ws.getD 2 ⟨#[]⟩),false,false,⟨#[]⟩,false⟩ (ws.drop 3)
def parseA (ws:List ByteArray):Acct × Int:=if ws.length < 3 then (zeroA,5) else if wordsA (candA ws)=ws then (candA ws,0) else (zeroA,5)
theorem right_parts {a:Acct} (h:rightA a=true):nmB a.code=true∧(a.cls=0∨a.cls=1∨a.cls=2)∧marksA a=true:=by
 unfold rightA at h
 simp only [Bool.and_eq_true,decide_eq_true_eq] at h
 obtain ⟨⟨⟨h1,h2⟩,h3⟩,h4⟩:=h
 exact ⟨h1,by omega,h4⟩
theorem marks_ways {a:Acct} (h:marksA a=true) :
 (a.cash=false∧a.both=false∧a.fixed=⟨#[]⟩∧a.worn=false) ∨
 (a.cash=true∧a.both=false∧a.fixed=⟨#[]⟩∧a.worn=false∧a.cls=0) ∨
 (a.cash=false∧a.both=true∧a.fixed=⟨#[]⟩∧a.worn=false∧a.cls≠2) ∨
 (a.cash=false∧a.both=false∧nmB a.fixed=true∧neB a.fixed=true∧a.worn=false∧a.cls=0) ∨
 (a.cash=false∧a.both=false∧nmB a.fixed=true∧neB a.fixed=true∧a.worn=true∧a.cls=0):=by
 obtain ⟨co,cl,ca,mu,fi,wo⟩:=a
 unfold marksA at h
 simp only at h ⊢
 by_cases hf:fi=⟨#[]⟩
 ·subst hf
  rw [neB_empty] at h ⊢
  cases ca <;> cases mu <;> cases wo <;> simp_all
 ·have hn:=(neB_iff fi).2 hf
  rw [hn] at h ⊢
  cases hm:nmB fi <;> cases ca <;> cases mu <;> cases wo <;> simp_all
theorem clsOf_clsW {n:Int} (h:n=0∨n=1∨n=2):clsOf (clsW n)=n:=by
 rcases h with rfl | rfl | rfl <;> decide
theorem parse_words {a:Acct} (h:rightA a=true):parseA (wordsA a)=(a,0):=by
 obtain ⟨h1,h2,h3⟩:=right_parts h
 have hw:wordsA a=tAccount::a.code::clsW a.cls::markW a:=by unfold wordsA;rw [if_pos h]
 have hc:candA (wordsA a)=a:=by
  rw [hw]
  unfold candA
  simp only [List.getD_cons_succ,List.getD_cons_zero,List.drop_succ_cons,List.drop_zero]
  rw [clsOf_clsW h2]
  have t1:decide (tCash=tMutual)=false:=by decide
  have t2:decide (tMutual=tCash)=false:=by decide
  have t3:decide (tFixed=tWorn)=false:=by decide
  rcases marks_ways h3 with ⟨e1,e2,e3,e4⟩ | ⟨e1,e2,e3,e4,e5⟩ | ⟨e1,e2,e3,e4,e5⟩ | ⟨e1,e2,e3,e6,e4,e5⟩ | ⟨e1,e2,e3,e6,e4,e5⟩ <;>
   obtain ⟨co,cl,ca,mu,fi,wo⟩:=a <;> simp only at e1 e2 e3 e4 ⊢ <;> subst e1 e2 e4
  ·subst e3;simp [markW,markedA,neB_empty]
  ·subst e3;simp [markW,markedA,t1]
  ·subst e3;simp [markW,markedA,t2]
  ·simp only at e6;simp [markW,markedA,e6,t3]
  ·simp [markW,markedA]
 unfold parseA
 rw [hc,if_neg (by rw [hw];simp),if_pos rfl]
theorem words_nil {a:Acct} (h:rightA a=false):wordsA a=[]:=by unfold wordsA;rw [h];rfl
theorem parse_ok {ws:List ByteArray} (h:(parseA ws).2=0):wordsA (parseA ws).1=ws∧rightA (parseA ws).1=true:=by
 unfold parseA at h ⊢
 by_cases h3:ws.length < 3
 ·rw [if_pos h3] at h;simp at h
 ·rw [if_neg h3] at h ⊢
  by_cases hw:wordsA (candA ws)=ws
  ·rw [if_pos hw]
   refine ⟨hw,?_⟩
   cases hr:rightA (candA ws) with
   | true=>rfl
   | false =>
     rw [words_nil hr] at hw
     subst hw
     simp at h3
  ·rw [if_neg hw] at h;simp at h
theorem parse_err (ws:List ByteArray):parseA ws=(zeroA,5)∨(wordsA (parseA ws).1=ws∧rightA (parseA ws).1=true∧(parseA ws).2=0):=by
 by_cases h:(parseA ws).2=0
 ·exact .inr ⟨(parse_ok h).1,(parse_ok h).2,h⟩
 ·left
  unfold parseA at h ⊢
  split
  ·rfl
  ·split
   ·rename_i h1 h2;rw [if_neg h1,if_pos h2] at h;exact absurd rfl h
   ·rfl
theorem parse_of {a:Acct} {ws:List ByteArray} (hr:rightA a=true) (h:wordsA a=ws):parseA ws=(a,0):=by rw [←h];exact parse_words hr
def ltS (x y:ByteArray):Bool:=Op.bytesLess x.toList y.toList
theorem less_iff:∀ (x y:List UInt8),Op.bytesLess x y=true ↔ x < y
 | [],[]=>by simp [Op.bytesLess]
 | [],_::_=>by simp [Op.bytesLess]
 | _::_,[]=>by simp [Op.bytesLess]
 | a::x,b::y=>by
   have ih:=less_iff x y
   rw [List.cons_lt_cons_iff]
   unfold Op.bytesLess
   by_cases h:a=b
   ·subst h;simp [ih]
   ·simp [h]
theorem ltS_iff (x y:ByteArray):ltS x y=true ↔ x.toList < y.toList:=by unfold ltS;exact less_iff _ _
theorem toList_inj {x y:ByteArray} (h:x.toList=y.toList):x=y:=by
 rw [ByteArray.toList_eq,ByteArray.toList_eq] at h
 obtain ⟨⟨a⟩⟩:=x;obtain ⟨⟨b⟩⟩:=y
 simp at h;rw [h]
theorem ltS_trans {x y z:ByteArray} (h1:ltS x y=true) (h2:ltS y z=true):ltS x z=true:=by
 rw [ltS_iff] at *;exact List.lt_trans h1 h2
theorem ltS_irr (x:ByteArray):ltS x x=false:=by
 cases h:ltS x x with
 | false=>rfl
 | true=>rw [ltS_iff] at h;exact absurd h (List.lt_irrefl _)
theorem ltS_asymm {x y:ByteArray} (h:ltS x y=true):ltS y x=false:=by
 cases h':ltS y x with
 | false=>rfl
 | true=>rw [←ltS_irr x];exact (ltS_trans h h').symm
theorem less_total:∀ (x y:List UInt8),Op.bytesLess x y=false→x≠y→Op.bytesLess y x=true
 | [],[],_,h=>absurd rfl h
 | [],_::_,h,_=>by simp [Op.bytesLess] at h
 | _::_,[],_,_=>by simp [Op.bytesLess]
 | a::x,b::y,h,hne=>by
   unfold Op.bytesLess at h ⊢
   simp only [Bool.or_eq_false_iff,decide_eq_false_iff_not,Bool.and_eq_false_iff,beq_eq_false_iff_ne,Bool.or_eq_true,decide_eq_true_eq,Bool.and_eq_true,beq_iff_eq] at h ⊢
   by_cases hab:a=b
   ·subst hab
    refine .inr ⟨rfl,less_total x y ?_ (fun e=>hne (by rw [e]))⟩
    rcases h.2 with h' | h'
    ·exact absurd rfl h'
    ·exact h'
   ·left
    rw [UInt8.lt_iff_toNat_lt] at h ⊢
    have:a.toNat≠b.toNat:=fun e=>hab (UInt8.toNat_inj.1 e)
    omega
theorem ltS_total {x y:ByteArray} (h:ltS x y=false) (hne:x≠y):ltS y x=true:=less_total _ _ h (fun e=>hne (toList_inj e))
end Go.Proofs.YthcpglnmhimepaaGreatDoor
end
section
namespace Go.Proofs.YthcpglnmhimepaaGreatDoor
open Go.RowKit
def gtS (x y:ByteArray):Bool:=!(ltS x y || x.toList==y.toList)
theorem gtS_iff (x y:ByteArray):gtS x y=true ↔ ltS y x=true:=by
 unfold gtS
 constructor
 ·intro h
  simp only [Bool.not_eq_true',Bool.or_eq_false_iff] at h
  exact ltS_total h.1 (fun e=>by subst e;simp at h)
 ·intro h
  rw [ltS_asymm h]
  have:(x.toList==y.toList)=false:=by
   cases e:x.toList==y.toList with
   | false=>rfl
   | true =>
     have:=toList_inj (eq_of_beq e)
     subst this
     rw [ltS_irr] at h;cases h
  rw [this];rfl
theorem gtS_no {x y:ByteArray} (h:gtS x y=false) (hne:x≠y):ltS x y=true:=by
 cases h':ltS x y with
 | true=>rfl
 | false=>rw [(gtS_iff x y).2 (ltS_total h' hne)] at h;cases h
def findL:List Acct→ByteArray→Option Acct
 | [],_=>none
 | a::L,c=>if a.code=c then some a else findL L c
def belowL:List Acct→ByteArray→Nat
 | [],_=>0
 | a::L,c=>if gtS a.code c=true then 0 else belowL L c+1
def insL:List Acct→Acct→List Acct
 | [],x=>[x]
 | a::L,x=>if gtS a.code x.code=true then x::a::L else a::insL L x
def addE (L:List Acct) (a:Acct):Int:=if rightA a=false then 1 else if (findL L a.code).isSome=true then 7 else if 60≤L.length then 4 else 0
def addV (L:List Acct) (a:Acct):List Acct:=if addE L a=0 then insL L a else L
def riseL:List Acct→Bool
 | a::b::L=>ltS a.code b.code && riseL (b::L)
 | _=>true
theorem belowL_le (L:List Acct) (c:ByteArray):belowL L c≤L.length:=by
 induction L with
 | nil=>exact Nat.le_refl _
 | cons a L ih=>simp only [belowL];split <;> simp;omega
theorem insL_eq (L:List Acct) (x:Acct):insL L x=L.take (belowL L x.code)++x::L.drop (belowL L x.code):=by
 induction L with
 | nil=>rfl
 | cons a L ih =>
   simp only [insL,belowL]
   split
   ·rfl
   ·rw [ih];simp
theorem insL_length (L:List Acct) (x:Acct):(insL L x).length=L.length+1:=by
 induction L with
 | nil=>rfl
 | cons a L ih=>simp only [insL];split <;> simp [ih]
theorem addE_zero {L:List Acct} {a:Acct} (h:addE L a=0):rightA a=true∧findL L a.code=none∧L.length < 60:=by
 unfold addE at h
 cases hr:rightA a with
 | false=>rw [hr] at h;simp at h
 | true =>
   rw [hr] at h
   simp only [Bool.true_eq_false,if_false] at h
   cases hf:findL L a.code with
   | some x=>rw [hf] at h;simp at h
   | none =>
     rw [hf] at h
     simp only [Option.isSome_none,Bool.false_eq_true,if_false] at h
     refine ⟨rfl,rfl,?_⟩
     split at h
     ·simp at h
     ·omega
theorem find_mem {L:List Acct} {c:ByteArray} {x:Acct} (h:findL L c=some x):x.code=c∧x∈L:=by
 induction L with
 | nil=>cases h
 | cons a L ih =>
   simp only [findL] at h
   split at h
   ·cases h;exact ⟨by assumption,List.mem_cons_self⟩
   ·exact ⟨(ih h).1,List.mem_cons_of_mem _ (ih h).2⟩
theorem rise_tail {a:Acct} {L:List Acct} (h:riseL (a::L)=true):riseL L=true:=by
 cases L with
 | nil=>rfl
 | cons b L=>simp only [riseL,Bool.and_eq_true] at h;exact h.2
theorem rise_ins (L:List Acct) (x:Acct) (hr:riseL L=true) (h:findL L x.code=none):riseL (insL L x)=true:=by
 induction L with
 | nil=>rfl
 | cons a L ih =>
   simp only [findL] at h
   split at h
   ·cases h
   ·rename_i hne
    simp only [insL]
    split
    ·rename_i hg
     simp only [riseL,Bool.and_eq_true]
     exact ⟨(gtS_iff _ _).1 hg,hr⟩
    ·rename_i hg
     have hlt:ltS a.code x.code=true:=gtS_no (by simpa using hg) hne
     have ih':=ih (rise_tail hr) h
     cases L with
     | nil=>simp [insL,riseL,hlt]
     | cons b L =>
       simp only [insL] at ih' ⊢
       split
       ·rename_i hg2
        rw [if_pos hg2] at ih'
        simp only [riseL,Bool.and_eq_true] at ih' ⊢
        exact ⟨hlt,ih'⟩
       ·rename_i hg2
        rw [if_neg hg2] at ih'
        simp only [riseL,Bool.and_eq_true] at hr
        cases hL:insL L x with
        | nil=>simp [riseL,hr.1]
        | cons c M =>
          rw [hL] at ih'
          simp only [riseL,Bool.and_eq_true] at ih' ⊢
          exact ⟨hr.1,ih'⟩
theorem find_at {L:List Acct} {c:ByteArray} {i:Nat} {x:Acct} (hb:∀ (j:Nat) (y:Acct),j < i→L[j]?=some y→y.code≠c) (hx:L[i]?=some x) (h:x.code=c):findL L c=some x:=by
 induction L generalizing i with
 | nil=>simp at hx
 | cons a L ih =>
   cases i with
   | zero=>simp at hx;subst hx;simp [findL,h]
   | succ i =>
     have h0:=hb 0 a (by omega) rfl
     simp only [findL,if_neg h0]
     exact ih (i:=i) (fun j y hj hy=>hb (j+1) y (by omega) (by simpa using hy)) (by simpa using hx)
theorem find_none {L:List Acct} {c:ByteArray} (h:∀ (j:Nat) (y:Acct),L[j]?=some y→y.code≠c):findL L c=none:=by
 induction L with
 | nil=>rfl
 | cons a L ih =>
   simp only [findL,if_neg (h 0 a rfl)]
   exact ih fun j y hy=>h (j+1) y (by simpa using hy)
theorem below_at {L:List Acct} {c:ByteArray} {i:Nat} {x:Acct} (hb:∀ (j:Nat) (y:Acct),j < i→L[j]?=some y→gtS y.code c=false) (hx:L[i]?=some x) (h:gtS x.code c=true):belowL L c=i:=by
 induction L generalizing i with
 | nil=>simp at hx
 | cons a L ih =>
   cases i with
   | zero=>simp at hx;subst hx;simp [belowL,h]
   | succ i =>
     have h0:=hb 0 a (by omega) rfl
     simp only [belowL,h0,Bool.false_eq_true,if_false]
     rw [ih (i:=i) (fun j y hj hy=>hb (j+1) y (by omega) (by simpa using hy)) (by simpa using hx)]
theorem below_none {L:List Acct} {c:ByteArray} (h:∀ (j:Nat) (y:Acct),L[j]?=some y→gtS y.code c=false):belowL L c=L.length:=by
 induction L with
 | nil=>rfl
 | cons a L ih =>
   simp only [belowL,h 0 a rfl,Bool.false_eq_true,if_false]
   rw [ih fun j y hy=>h (j+1) y (by simpa using hy)]
   rfl
end Go.Proofs.YthcpglnmhimepaaGreatDoor
end
section
namespace Go.Proofs.YthcpglnmhimepaaGreatDoor
open Go.RowKit
section
variable {α:Type} (key:α→ByteArray)
def findK:List α→ByteArray→Option α
 | [],_=>none
 | a::L,c=>if key a=c then some a else findK L c
def placeK:List α→ByteArray→Nat
 | [],_=>0
 | a::L,c=>if ltS (key a) c=true then placeK L c+1 else 0
def insK (L:List α) (x:α):List α:=L.take (placeK key L (key x))++x::L.drop (placeK key L (key x))
def riseK:List α→Bool
 | a::b::L=>ltS (key a) (key b) && riseK (b::L)
 | _=>true
variable {key}
theorem placeK_le (L:List α) (c:ByteArray):placeK key L c≤L.length:=by
 induction L with
 | nil=>exact Nat.le_refl _
 | cons a L ih=>simp only [placeK];split <;> simp;omega
theorem insK_length (L:List α) (x:α):(insK key L x).length=L.length+1:=by
 have:=placeK_le (key:=key) L (key x)
 simp [insK];omega
theorem insK_cons (a x:α) (L:List α):insK key (a::L) x=if ltS (key a) (key x)=true then a::insK key L x else x::a::L:=by
 unfold insK
 simp only [placeK]
 split <;> simp
theorem mem_ins {L:List α} {x y:α}:y∈insK key L x ↔ y=x∨y∈L:=by
 unfold insK
 rw [List.mem_append,List.mem_cons]
 constructor
 ·rintro (h | h | h)
  ·exact .inr (List.mem_of_mem_take h)
  ·exact .inl h
  ·exact .inr (List.mem_of_mem_drop h)
 ·rintro (h | h)
  ·exact .inr (.inl h)
  ·rw [←List.take_append_drop (placeK key L (key x)) L,List.mem_append] at h
   rcases h with h | h
   ·exact .inl h
   ·exact .inr (.inr h)
theorem filter_ins_no {p:α→Bool} (L:List α) {x:α} (h:p x=false):(insK key L x).filter p=L.filter p:=by
 unfold insK
 rw [List.filter_append,List.filter_cons,h]
 simp only [Bool.false_eq_true,if_false]
 rw [←List.filter_append,List.take_append_drop]
theorem filter_ins_length {p:α→Bool} (L:List α) {x:α} (h:p x=true):((insK key L x).filter p).length=(L.filter p).length+1:=by
 have e:(L.filter p).length=((L.take (placeK key L (key x))).filter p).length+((L.drop (placeK key L (key x))).filter p).length:=by
  rw [←List.length_append,←List.filter_append,List.take_append_drop]
 unfold insK
 rw [List.filter_append,List.filter_cons,h]
 simp only [if_true,List.length_append,List.length_cons]
 omega
theorem findK_mem {L:List α} {c:ByteArray} {x:α} (h:findK key L c=some x):key x=c∧x∈L:=by
 induction L with
 | nil=>cases h
 | cons a L ih =>
   simp only [findK] at h
   split at h
   ·cases h;exact ⟨by assumption,List.mem_cons_self⟩
   ·exact ⟨(ih h).1,List.mem_cons_of_mem _ (ih h).2⟩
theorem findK_no {L:List α} {c:ByteArray} (h:findK key L c=none):∀ x∈L,key x≠c:=by
 induction L with
 | nil=>intro x hx;cases hx
 | cons a L ih =>
   simp only [findK] at h
   split at h
   ·cases h
   ·intro x hx
    rcases List.mem_cons.1 hx with rfl | hx
    ·assumption
    ·exact ih h x hx
theorem findK_none {L:List α} {c:ByteArray} (h:∀ x∈L,key x≠c):findK key L c=none:=by
 cases hf:findK key L c with
 | none=>rfl
 | some x=>exact absurd (findK_mem hf).1 (h x (findK_mem hf).2)
theorem findK_ins (L:List α) (x:α) (c:ByteArray) (h:findK key L (key x)=none):findK key (insK key L x) c=if key x=c then some x else findK key L c:=by
 induction L with
 | nil=>simp [insK,placeK,findK]
 | cons a L ih =>
   simp only [findK] at h
   split at h
   ·cases h
   ·rename_i hne
    rw [insK_cons]
    split
    ·simp only [findK]
     rw [ih h]
     by_cases h1:key a=c
     ·have:key x≠c:=fun e=>hne (by rw [h1,e])
      simp [h1,this]
     ·simp [h1]
    ·simp [findK]
theorem riseK_tail {a:α} {L:List α} (h:riseK key (a::L)=true):riseK key L=true:=by
 cases L with
 | nil=>rfl
 | cons b L=>simp only [riseK,Bool.and_eq_true] at h;exact h.2
theorem riseK_head {a:α} {L:List α} (h:riseK key (a::L)=true):∀ y∈L,ltS (key a) (key y)=true:=by
 induction L generalizing a with
 | nil=>intro y hy;cases hy
 | cons b L ih =>
   simp only [riseK,Bool.and_eq_true] at h
   intro y hy
   rcases List.mem_cons.1 hy with rfl | hy
   ·exact h.1
   ·exact ltS_trans h.1 (ih h.2 y hy)
theorem riseK_cons {a:α} {L:List α} (h1:∀ y∈L,ltS (key a) (key y)=true) (h2:riseK key L=true):riseK key (a::L)=true:=by
 cases L with
 | nil=>rfl
 | cons b L=>simp only [riseK,Bool.and_eq_true];exact ⟨h1 b List.mem_cons_self,h2⟩
theorem riseK_ins (L:List α) (x:α) (hr:riseK key L=true) (h:findK key L (key x)=none):riseK key (insK key L x)=true:=by
 induction L with
 | nil=>rfl
 | cons a L ih =>
   have hne:key a≠key x:=findK_no h a List.mem_cons_self
   rw [insK_cons]
   split
   ·rename_i hg
    refine riseK_cons (fun y hy=>?_) (ih (riseK_tail hr) (findK_none fun y hy=>findK_no h y (List.mem_cons_of_mem _ hy)))
    rcases mem_ins.1 hy with rfl | hy
    ·exact hg
    ·exact riseK_head hr y hy
   ·rename_i hg
    have hlt:ltS (key x) (key a)=true:=ltS_total (by simpa using hg) hne
    simp only [riseK,Bool.and_eq_true]
    exact ⟨hlt,hr⟩
theorem riseK_at {L:List α} (h:riseK key L=true) {i j:Nat} {x y:α} (hij:i < j) (hx:L[i]?=some x) (hy:L[j]?=some y):ltS (key x) (key y)=true:=by
 induction L generalizing i j with
 | nil=>simp at hx
 | cons a L ih =>
   cases j with
   | zero=>omega
   | succ j =>
     cases i with
     | zero =>
       simp at hx hy
       subst hx
       exact riseK_head h y (List.mem_of_getElem? hy)
     | succ i =>
       simp at hx hy
       exact ih (riseK_tail h) (by omega) hx hy
theorem riseK_uniq {L:List α} (h:riseK key L=true) {x y:α} (hx:x∈L) (hy:y∈L) (e:key x=key y):x=y:=by
 obtain ⟨i,hi,hix⟩:=List.getElem_of_mem hx
 obtain ⟨j,hj,hjy⟩:=List.getElem_of_mem hy
 have h1:L[i]?=some x:=by rw [List.getElem?_eq_getElem hi,hix]
 have h2:L[j]?=some y:=by rw [List.getElem?_eq_getElem hj,hjy]
 rcases Nat.lt_trichotomy i j with hl | hl | hl
 ·have:=riseK_at h hl h1 h2;rw [e,ltS_irr] at this;cases this
 ·subst hl;rw [h1] at h2;exact Option.some.inj h2
 ·have:=riseK_at h hl h2 h1;rw [e,ltS_irr] at this;cases this
theorem findK_of_mem {L:List α} (h:riseK key L=true) {x:α} (hx:x∈L):findK key L (key x)=some x:=by
 cases hf:findK key L (key x) with
 | none=>exact absurd rfl (findK_no hf x hx)
 | some y=>rw [riseK_uniq h (findK_mem hf).2 hx (findK_mem hf).1]
theorem placeK_at {L:List α} {c:ByteArray} {i:Nat} (hi:i≤L.length) (hb:∀ (j:Nat) (y:α),j < i→L[j]?=some y→ltS (key y) c=true) (hx:∀ y,L[i]?=some y→ltS (key y) c=false):placeK key L c=i:=by
 induction L generalizing i with
 | nil=>simp at hi;subst hi;rfl
 | cons a L ih =>
   cases i with
   | zero=>simp only [placeK,hx a rfl,Bool.false_eq_true,if_false]
   | succ i =>
     simp only [placeK,hb 0 a (by omega) rfl,if_true]
     rw [ih (i:=i) (by simpa using hi) (fun j y hj hy=>hb (j+1) y (by omega) (by simpa using hy)) (fun y hy=>hx y (by simpa using hy))]
theorem placeK_below {L:List α} {c:ByteArray}:∀ (j:Nat) (y:α),j < placeK key L c→L[j]?=some y→ltS (key y) c=true:=by
 induction L with
 | nil=>intro j y _ h;simp at h
 | cons a L ih =>
   intro j y hj hy
   simp only [placeK] at hj
   split at hj
   ·cases j with
    | zero=>simp at hy;subst hy;assumption
    | succ j=>exact ih j y (by omega) (by simpa using hy)
   ·omega
theorem placeK_there {L:List α} {c:ByteArray} {y:α} (h:L[placeK key L c]?=some y):ltS (key y) c=false:=by
 induction L with
 | nil=>simp at h
 | cons a L ih =>
   simp only [placeK] at h
   split at h
   ·exact ih (by simpa using h)
   ·simp at h;subst h;simp_all
def isK (key:α→ByteArray) (L:List α) (c:ByteArray):Bool:=match L[placeK key L c]? with
 | some x=>decide (key x=c)
 | none=>false
theorem isK_find {L:List α} (h:riseK key L=true) (c:ByteArray):isK key L c=(findK key L c).isSome∧(isK key L c=true→L[placeK key L c]?=findK key L c):=by
 unfold isK
 cases hp:L[placeK key L c]? with
 | none =>
   have hlen:L.length≤placeK key L c:=List.getElem?_eq_none_iff.1 hp
   have hf:findK key L c=none:=findK_none fun x hx e=>by
    obtain ⟨i,hi,hix⟩:=List.getElem_of_mem hx
    have:=placeK_below (key:=key) (L:=L) (c:=c) i x (by omega) (by rw [List.getElem?_eq_getElem hi,hix])
    rw [e,ltS_irr] at this;cases this
   rw [hf];exact ⟨rfl,fun h=>by cases h⟩
 | some x =>
   simp only
   by_cases e:key x=c
   ·have hm:=List.mem_of_getElem? hp
    have hf:=findK_of_mem h hm
    rw [e] at hf
    rw [hf];exact ⟨by simp [e],fun _=>rfl⟩
   ·have hf:findK key L c=none:=findK_none fun y hy ey=>by
     obtain ⟨i,hi,hiy⟩:=List.getElem_of_mem hy
     have h1:L[i]?=some y:=by rw [List.getElem?_eq_getElem hi,hiy]
     rcases Nat.lt_trichotomy i (placeK key L c) with hl | hl | hl
     ·have:=placeK_below (key:=key) (L:=L) (c:=c) i y hl h1;rw [ey,ltS_irr] at this;cases this
     ·rw [hl,hp] at h1;cases h1;exact e ey
     ·have h2:=riseK_at h hl hp h1
      rw [ey,placeK_there hp] at h2;cases h2
    rw [hf];exact ⟨by simp [e],fun h=>by simp [e] at h⟩
end
end Go.Proofs.YthcpglnmhimepaaGreatDoor
end
section
namespace Go.Proofs.YthcpglnmhimepaaGreatDoor
open Go.RowKit
theorem below_grown {B:Nat} {w wr w1:World} {e:TypeId} {size n:Nat} {v:Value} {xs:List Value} (hnx:Below B w wr) (hB:B≤wr.heap.size) (hown:wr.ownsRow B e size v n xs) (hg:wr.grownBy w1 v.ownBlock):Below B w w1 :=
 hnx.grown hg hB (fun j hj=>(hown.lt j hj).1)
section
variable {P:Program} {w:World} {ops:Array Oper} {rest:List Oper} {o:Oper} {a:Act} {Q:Exit→Act→World→Prop}
end
end Go.Proofs.YthcpglnmhimepaaGreatDoor
end
section
namespace Go.Proofs.YthcpglnmhimepaaGreatDoor
open Go.RowKit
def StrsV (w:World) (v:Value) (ws:List ByteArray):Prop :=
 ∃ a c,v=.slice a ws.length c∧ws.length≤c∧ws.length≤maxLen∧∀ i x,ws[i]?=some x→∃ b o,a=some ⟨b,o,none⟩∧w.cell? ⟨b,o+i,none⟩=some (.string x)
def LinesV (w:World) (v:Value) (L:List (Int × List ByteArray)):Prop :=
 ∃ a c,v=.slice a L.length c∧L.length≤maxLen∧∀ i x,L[i]?=some x→∃ b o u,a=some ⟨b,o,none⟩∧w.cell? ⟨b,o+i * 2,none⟩=some (.int .i64 x.1)∧w.cell? ⟨b,o+i * 2+1,none⟩=some u∧StrsV w u x.2
theorem StrsV.nil (w:World):StrsV w (.slice none 0 0) []:=⟨none,0,rfl,by simp,by simp,fun i x h=>by simp at h⟩
theorem LinesV.nil (w:World):LinesV w (.slice none 0 0) []:=⟨none,0,rfl,by simp,fun i x h=>by simp at h⟩
theorem StrsV.keep {w w':World} {v:Value} {ws:List ByteArray} (h:StrsV w v ws) (hb:Below w.heap.size w w'):StrsV w' v ws:=by
 obtain ⟨a,c,e,h1,h2,hc⟩:=h
 exact ⟨a,c,e,h1,h2,fun i x hx=>by
  obtain ⟨b,o,ea,hx'⟩:=hc i x hx
  exact ⟨b,o,ea,(hb.cell (World.block_lt_of_cell? w _ hx')).trans hx'⟩⟩
theorem add_off (b o i:Nat):(⟨b,o,none⟩:Addr).add i=⟨b,o+i,none⟩:=by
 by_cases h0:i=0
 ·subst h0;simp [Addr.add]
 ·simp [Addr.add,h0]
def flatL (LV:List (Int × Value)):List Value:=LV.flatMap fun x=>[.int .i64 x.1,x.2]
theorem flatL_snoc (LV:List (Int × Value)) (n:Int) (u:Value):flatL (LV++[(n,u)])=flatL LV++[.int .i64 n,u]:=by simp [flatL]
theorem flatL_length (LV:List (Int × Value)):(flatL LV).length=LV.length * 2:=by
 induction LV with
 | nil=>rfl
 | cons x r ih =>
   have e:flatL (x::r)=.int .i64 x.1::x.2::flatL r:=rfl
   rw [e];simp;omega
theorem flatL_at:∀ (LV:List (Int × Value)) (i:Nat) (x:Int × Value),LV[i]?=some x→(flatL LV)[i * 2]?=some (.int .i64 x.1)∧(flatL LV)[i * 2+1]?=some x.2
 | [],i,x,h=>by simp at h
 | y::r,0,x,h=>by
   simp at h
   subst h
   exact ⟨rfl,rfl⟩
 | y::r,i+1,x,h=>by
   have ih:=flatL_at r i x (by simpa using h)
   have e:flatL (y::r)=.int .i64 y.1::y.2::flatL r:=rfl
   rw [e,show (i+1) * 2=i * 2+1+1 by omega,show i * 2+1+1+1=(i * 2+1)+1+1 by omega]
   simpa using ih
theorem row_apart {W:World} {B B':Nat} {e e':TypeId} {s s':Nat} {v v':Value} {n n':Nat} {xs xs':List Value} (h:W.ownsRow B e s v n xs) (h':W.ownsRow B' e' s' v' n' xs') (hne:e≠e'):v'.ownBlock=none∨v'.ownBlock≠v.ownBlock:=by
 rcases h'.2 with ⟨rfl,_⟩ | ⟨g',cap',cur',rfl,_,hg',_⟩
 ·exact .inl rfl
 ·refine .inr fun e0=>?_
  rcases h.2 with ⟨rfl,_⟩ | ⟨g,cap,cur,rfl,_,hg,_⟩
  ·simp [Value.ownBlock] at e0
  ·obtain rfl:g'=g:=by simpa [Value.ownBlock] using e0
   rw [hg] at hg'
   simp at hg'
   exact hne hg'.2
theorem row_uncells {X Y:World} {B:Nat} {e:TypeId} {s:Nat} {v:Value} {n:Nat} {xs:List Value} {row:Option Nat} (h:X.ownsRow B e s v n xs) (hg:X.grownBy Y row) (hr:∀ r,row=some r→∃ o:Obj,X.heap[r]?=some o∧o.isCells=false):Y.ownsRow B e s v n xs:=by
 refine h.kept hg ?_
 rcases h.2 with ⟨rfl,_⟩ | ⟨g,cap,cur,rfl,_,hgb,_⟩
 ·exact .inl rfl
 ·refine .inr fun e'=>?_
  obtain ⟨o,ho,hc⟩:=hr g (by simpa [Value.ownBlock] using e'.symm)
  rw [hgb] at ho;cases ho;cases hc
theorem row_below {X Y:World} {B:Nat} {e:TypeId} {s:Nat} {v:Value} {n:Nat} {xs:List Value} (h:X.ownsRow B e s v n xs) (hb:Below X.heap.size X Y):Y.ownsRow B e s v n xs :=
 h.kept (row:=none) ⟨hb.os,hb.tape,hb.output,hb.size,fun j hj _=>hb.block j hj⟩ (by
  cases v.ownBlock with
  | none=>exact .inl rfl
  | some g=>exact .inr (by simp))
theorem row_base {X:World} {B B':Nat} {e:TypeId} {s:Nat} {v:Value} {n:Nat} {xs:List Value} (h:X.ownsRow B e s v n xs) (hB:B'≤B):X.ownsRow B' e s v n xs:=by
 refine ⟨h.1,?_⟩
 rcases h.2 with h0 | ⟨g,cap,cur,hv,hb,rest⟩
 ·exact .inl h0
 ·exact .inr ⟨g,cap,cur,hv,by omega,rest⟩
theorem boxed_below {X Y:World} {B:Nat} {t:TypeId} {v:Value} (h:Boxed X B t v) (hb:Below X.heap.size X Y):Boxed Y B t v:=(hb.block B h.lt).trans h
theorem keepsFrom_below {X Y:World} (B:Nat) (hb:Below X.heap.size X Y):KeepsFrom B X Y :=
 ⟨hb.size,fun k _ _ h _=>(hb.block k (Array.getElem?_eq_some_iff.1 h).1).trans h⟩
def WordsOwn (W:World) (B:Nat) (e:TypeId) (LV:List (Int × Value)) (L:List (Int × List ByteArray)):Prop :=
 LV.length=L.length∧∀ (i:Nat) (x:Int × Value) (y:Int × List ByteArray),LV[i]?=some x→L[i]?=some y→x.1=y.1∧W.ownsRow B e 1 x.2 y.2.length (y.2.map Value.string)
theorem WordsOwn.mono {W W':World} {B:Nat} {e:TypeId} {LV:List (Int × Value)} {L:List (Int × List ByteArray)} (h:WordsOwn W B e LV L) (hk:∀ (u:Value) (n:Nat) (xs:List Value),W.ownsRow B e 1 u n xs→W'.ownsRow B e 1 u n xs):WordsOwn W' B e LV L :=
 ⟨h.1,fun i x y hx hy=>⟨(h.2 i x y hx hy).1,hk _ _ _ (h.2 i x y hx hy).2⟩⟩
theorem WordsOwn.nil (W:World) (B:Nat) (e:TypeId):WordsOwn W B e [] []:=⟨rfl,fun i x y h=>by simp at h⟩
theorem WordsOwn.snoc {W:World} {B:Nat} {e:TypeId} {LV:List (Int × Value)} {L:List (Int × List ByteArray)} (h:WordsOwn W B e LV L) (n:Int) (u:Value) (ws:List ByteArray) (hu:W.ownsRow B e 1 u ws.length (ws.map Value.string)):WordsOwn W B e (LV++[(n,u)]) (L++[(n,ws)]):=by
 refine ⟨by simp [h.1],fun i x y hx hy=>?_⟩
 by_cases hi:i < LV.length
 ·rw [List.getElem?_append_left hi] at hx
  rw [List.getElem?_append_left (by rw [←h.1];exact hi)] at hy
  exact h.2 i x y hx hy
 ·have hi':i=LV.length:=by
   have:=(List.getElem?_eq_some_iff.1 hx).1
   simp at this
   omega
  subst hi'
  simp at hx
  rw [h.1] at hy
  simp at hy
  subst hx hy
  exact ⟨rfl,hu⟩
theorem strs_of_own {W:World} {B:Nat} {e:TypeId} {u:Value} {ws:List ByteArray} (h:W.ownsRow B e 1 u ws.length (ws.map Value.string)):StrsV W u ws:=by
 have hw:=h
 rcases h.2 with ⟨rfl,hn⟩ | ⟨g,cap,cur,rfl,_,_,hnc,hcm,_⟩
 ·have:ws=[]:=List.eq_nil_of_length_eq_zero hn
  subst this
  exact StrsV.nil W
 ·refine ⟨_,cap,rfl,hnc,by omega,fun i x hx=>⟨g,0,rfl,?_⟩⟩
  have:=hw.cells (g:=g) rfl i (.string x) (by simp [hx])
  rwa [add_off] at this
def WordsIn (W:World) (LV:List (Int × Value)) (L:List (Int × List ByteArray)):Prop :=
 LV.length=L.length∧∀ (i:Nat) (x:Int × Value) (y:Int × List ByteArray),LV[i]?=some x→L[i]?=some y→x.1=y.1∧StrsV W x.2 y.2
theorem lines_of_in {W:World} {B:Nat} {e:TypeId} {v:Value} {LV:List (Int × Value)} {L:List (Int × List ByteArray)} (h:W.ownsRow B e 2 v LV.length (flatL LV)) (hw:WordsIn W LV L):LinesV W v L:=by
 have h0:=h
 rcases h.2 with ⟨rfl,hn⟩ | ⟨g,cap,cur,rfl,_,_,hnc,hcm,_⟩
 ·have:L=[]:=List.eq_nil_of_length_eq_zero (by rw [←hw.1];exact hn)
  subst this
  exact LinesV.nil W
 ·rw [hw.1]
  refine ⟨_,cap,rfl,by rw [←hw.1];omega,fun i y hy=>?_⟩
  have hi:i < LV.length:=by rw [hw.1];exact (List.getElem?_eq_some_iff.1 hy).1
  have hx:LV[i]?=some LV[i]:=List.getElem?_eq_getElem hi
  obtain ⟨e1,e2⟩:=hw.2 i _ y hx hy
  obtain ⟨f1,f2⟩:=flatL_at LV i _ hx
  have c1:=h0.cells (g:=g) rfl _ _ f1
  have c2:=h0.cells (g:=g) rfl _ _ f2
  rw [add_off] at c1 c2
  exact ⟨g,0,_,rfl,by rw [←e1];exact c1,by rw [Nat.add_assoc];exact c2,e2⟩
theorem WordsOwn.isIn {W:World} {B:Nat} {e:TypeId} {LV:List (Int × Value)} {L:List (Int × List ByteArray)} (h:WordsOwn W B e LV L):WordsIn W LV L :=
 ⟨h.1,fun i x y hx hy=>⟨(h.2 i x y hx hy).1,strs_of_own (h.2 i x y hx hy).2⟩⟩
theorem strs_new (w:World) (ws:List ByteArray) (t:TypeId) (hl:ws.length≤maxLen):StrsV (w.alloc (.cells (ws.map Value.string).toArray t)) (.slice (some ⟨w.heap.size,0,none⟩) ws.length ws.length) ws :=
 ⟨_,_,rfl,Nat.le_refl _,hl,fun i x hx=>⟨w.heap.size,0,rfl,by
  rw [Nat.zero_add,cell_of_row _ w.heap.size i _ t (0,0) (heap_alloc_new w _)]
  simp [hx]⟩⟩
theorem take_at {α:Type} (L:List α) (k:Nat) (h:k < L.length):L.take (k+1)=L.take k++[L[k]]:=List.take_succ_eq_append_getElem h
end Go.Proofs.YthcpglnmhimepaaGreatDoor
end
section
namespace Go.Proofs.YthcpglnmhimepaaGreatDoor
open Go.RowKit
structure Enc (α:Type) where
 cs:α→List Value
 k:Nat
 len:∀ a,(cs a).length=k
 pos:0 < k
 one:∀ a,∀ v∈cs a,v.oneCell'=true
section
variable {α:Type} {E:Enc α}
def ElAt (E:Enc α) (w:World) (b o:Nat) (a:α):Prop:=∀ (j:Nat) v,(E.cs a)[j]?=some v→w.cell? ⟨b,o+j,none⟩=some v
theorem ElAt.lt {w:World} {b o:Nat} {a:α} (h:ElAt E w b o a):b < w.heap.size:=by
 have h0:0 < (E.cs a).length:=by rw [E.len];exact E.pos
 exact World.block_lt_of_cell? w _ (h 0 _ (List.getElem?_eq_getElem h0))
theorem ElAt.keep {w w':World} {b o B:Nat} {a:α} (h:ElAt E w b o a) (hb:Below B w w') (hB:b < B):ElAt E w' b o a :=
 fun j v hj=>(hb.cell (p:=⟨b,_,none⟩) hB).trans (h j v hj)
def ElsV (E:Enc α) (w:World) (v:Value) (L:List α):Prop :=
 ∃ p c,v=.slice p L.length c∧L.length≤c∧c≤maxLen∧(p=none→c=0)∧∀ (i:Nat) (x:α),L[i]?=some x→∃ b o,p=some ⟨b,o,none⟩∧ElAt E w b (o+i * E.k) x
theorem ElsV.nil (w:World):ElsV E w (.slice none 0 0) []:=⟨none,0,rfl,by simp,by simp,fun _=>rfl,fun i x h=>by simp at h⟩
theorem ElsV.keep {w w':World} {v:Value} {L:List α} (h:ElsV E w v L) (hb:Below w.heap.size w w'):ElsV E w' v L:=by
 obtain ⟨a,c,e,h1,h2,h3,hc⟩:=h
 exact ⟨a,c,e,h1,h2,h3,fun i x hx=>by
  obtain ⟨b,o,ea,hx'⟩:=hc i x hx
  exact ⟨b,o,ea,hx'.keep hb hx'.lt⟩⟩
def flat (E:Enc α) (L:List α):List Value:=L.flatMap E.cs
theorem flat_cons (a:α) (L:List α):flat E (a::L)=E.cs a++flat E L:=rfl
theorem flat_one (a:α):flat E [a]=E.cs a:=by simp [flat]
theorem flat_append (L M:List α):flat E (L++M)=flat E L++flat E M:=by simp [flat]
theorem flat_length (L:List α):(flat E L).length=L.length * E.k:=by
 induction L with
 | nil=>simp [flat]
 | cons a L ih=>rw [flat_cons,List.length_append,ih,E.len,List.length_cons,Nat.succ_mul];omega
theorem flat_at:∀ (L:List α) (i:Nat) (x:α),L[i]?=some x→∀ (j:Nat) v,(E.cs x)[j]?=some v→(flat E L)[i * E.k+j]?=some v
 | [],i,x,h=>by simp at h
 | y::L,0,x,h=>by
   simp at h
   subst h
   intro j v hj
   have:j < (E.cs y).length:=(List.getElem?_eq_some_iff.1 hj).1
   rw [flat_cons,Nat.zero_mul,Nat.zero_add,List.getElem?_append_left this];exact hj
 | y::L,i+1,x,h=>fun j v hj=>by
   have ih:=flat_at L i x (by simpa using h) j v hj
   rw [flat_cons,show (i+1) * E.k+j=(E.cs y).length+(i * E.k+j) by rw [E.len,Nat.succ_mul];omega,List.getElem?_append_right (by omega)]
   simpa using ih
theorem flat_of {L:List α} {k:Nat} {v:Value} (h:(flat E L)[k]?=some v):∃ x,L[k / E.k]?=some x∧(E.cs x)[k % E.k]?=some v:=by
 have hk:k < L.length * E.k:=by rw [←flat_length];exact (List.getElem?_eq_some_iff.1 h).1
 have hi:k / E.k < L.length:=Nat.div_lt_of_lt_mul (by rw [Nat.mul_comm];exact hk)
 refine ⟨L[k / E.k],List.getElem?_eq_getElem hi,?_⟩
 have hj:k % E.k < (E.cs L[k / E.k]).length:=by rw [E.len];exact Nat.mod_lt _ E.pos
 have:=flat_at L (k / E.k) _ (List.getElem?_eq_getElem hi) (k % E.k) _ (List.getElem?_eq_getElem hj)
 rw [Nat.mul_comm,Nat.div_add_mod,h] at this
 rw [List.getElem?_eq_getElem hj,this]
theorem flat_ones (L:List α):∀ v∈flat E L,v.oneCell'=true:=by
 intro v hv
 obtain ⟨a,_,ha⟩:=List.mem_flatMap.1 hv
 exact E.one a v ha
theorem flat_take (L:List α) (k:Nat):flat E (L.take k)=(flat E L).take (k * E.k):=by
 induction L generalizing k with
 | nil=>simp [flat]
 | cons a L ih =>
   cases k with
   | zero=>simp [flat]
   | succ k =>
     rw [List.take_succ_cons,flat_cons,flat_cons,ih,List.take_append,E.len,show (k+1) * E.k - E.k=k * E.k by rw [Nat.succ_mul];omega,List.take_of_length_le (l:=E.cs a) (by rw [E.len,Nat.succ_mul];omega)]
theorem flat_drop (L:List α) (k:Nat):flat E (L.drop k)=(flat E L).drop (k * E.k):=by
 induction L generalizing k with
 | nil=>simp [flat]
 | cons a L ih =>
   cases k with
   | zero=>simp
   | succ k =>
     rw [List.drop_succ_cons,flat_cons,ih,List.drop_append,E.len,show (k+1) * E.k - E.k=k * E.k by rw [Nat.succ_mul];omega,List.drop_of_length_le (l:=E.cs a) (by rw [E.len,Nat.succ_mul];omega),List.nil_append]
theorem ElsV.cells {w:World} {p:Option Addr} {n c:Nat} {L:List α} (h:ElsV E w (.slice p n c) L) (hL:L≠[]):∃ b o,p=some ⟨b,o,none⟩∧b < w.heap.size∧∀ (j:Nat) v,(flat E L)[j]?=some v→w.cell? ⟨b,o+j,none⟩=some v:=by
 obtain ⟨p',c',e,_,_,_,hc⟩:=h
 cases e
 cases L with
 | nil=>exact absurd rfl hL
 | cons a L =>
   obtain ⟨b,o,rfl,h0⟩:=hc 0 a rfl
   refine ⟨b,o,rfl,h0.lt,fun j v hj=>?_⟩
   obtain ⟨x,hx,hv⟩:=flat_of hj
   obtain ⟨b',o',e',h1⟩:=hc _ x hx
   cases e'
   have:=h1 _ v hv
   rwa [Nat.add_assoc,Nat.mul_comm,Nat.div_add_mod] at this
theorem els_of_own {w:World} {B:Nat} {e:TypeId} {v:Value} {L:List α} (h:w.ownsRow B e E.k v L.length (flat E L)):ElsV E w v L:=by
 have h0:=h
 rcases h.2 with ⟨rfl,hn⟩ | ⟨g,cap,cur,rfl,_,_,hnc,hcm,_⟩
 ·have:L=[]:=List.eq_nil_of_length_eq_zero hn
  subst this
  exact ElsV.nil w
 ·refine ⟨_,cap,rfl,hnc,hcm,(fun e=>by cases e),fun i x hx=>⟨g,0,rfl,fun j u hj=>?_⟩⟩
  have:=h0.cells (g:=g) rfl _ _ (flat_at L i x hx j u hj)
  rwa [add_off,←Nat.add_assoc] at this
def BoxE (E:Enc α) (w:World) (b:Nat) (t:TypeId) (a:α):Prop:=w.heap[b]?=some (.cells (E.cs a).toArray t (0,0))
theorem BoxE.lt {w:World} {b:Nat} {t:TypeId} {a:α} (h:BoxE E w b t a):b < w.heap.size:=(Array.getElem?_eq_some_iff.1 h).1
theorem BoxE.keep {w w':World} {b B:Nat} {t:TypeId} {a:α} (h:BoxE E w b t a) (hb:Below B w w') (hB:b < B):BoxE E w' b t a:=(hb.block b hB).trans h
theorem BoxE.kept {w w':World} {b:Nat} {t:TypeId} {a:α} (h:BoxE E w b t a) (hb:Below w.heap.size w w'):BoxE E w' b t a:=h.keep hb h.lt
theorem BoxE.new (E:Enc α) (w:World) (a:α) (t:TypeId):BoxE E (w.alloc (.cells (E.cs a).toArray t)) w.heap.size t a:=heap_alloc_new w _
theorem BoxE.at0 {w:World} {b:Nat} {t:TypeId} {a:α} (h:BoxE E w b t a):ElAt E w b 0 a :=
 fun j v hj=>by rw [Nat.zero_add,cell_of_row _ b j _ t (0,0) h];simpa using hj
theorem grownBy_set (w:World) (g:Nat) (cs:Array Value):w.grownBy (w.setRow g cs) (some g) :=
 ⟨rfl,rfl,rfl,by simp [World.setRow],fun k _ hk=>setRow_other w g k cs (fun e=>hk (by rw [e]))⟩
theorem wpList_store_el {P:Program} {ops:Array Oper} {rest:List Oper} {o:Oper} {act:Act} {w:World} {Q:Exit→Act→World→Prop} (hgd:o.guard=none) (ty:TypeId) (x y:Operand) (ho:o.op=.store ty x y)
 (g:Nat) (z a:α) (t:TypeId) (hx:act.eval x=.pointer (some ⟨g,0,none⟩)) (hy:act.eval y=.agg (E.cs a).toArray) (hg:BoxE E w g t z) (hi:(P.info? ty).map (·.size)=some E.k)
 (h:∀ w',BoxE E w' g t a→w.grownBy w' (some g)→wpList P ops Q rest (act.put o.dst undef) w'):wpList P ops Q (o::rest) act w :=
 wpList_store_row hgd ty x y ho g _ hx hy t _ hg (by rw [hi];simp [E.len]) (by simp [E.len]) (by simp only [List.all_toArray,List.all_eq_true];exact fun v hv=>E.one a v hv) (h _ (setRow_heap w g _ _ t _ hg) (grownBy_set w g _))
theorem els_new (E:Enc α) (w:World) (L:List α) (t:TypeId) (hl:L.length≤maxLen):ElsV E (w.alloc (.cells (flat E L).toArray t)) (.slice (some ⟨w.heap.size,0,none⟩) L.length L.length) L :=
 ⟨_,_,rfl,Nat.le_refl _,hl,(fun e=>by cases e),fun i x hx=>⟨w.heap.size,0,rfl,fun j v hj=>by
  rw [cell_of_row _ w.heap.size _ _ t (0,0) (heap_alloc_new w _),Nat.zero_add]
  simpa using flat_at L i x hx j v hj⟩⟩
end
end Go.Proofs.YthcpglnmhimepaaGreatDoor
end
section
namespace Go.Proofs.YthcpglnmhimepaaGreatDoor.Fl
open Go.RowKit
structure Flow where
 code:ByteArray
 kind:Int
theorem Flow.ext' {a b:Flow} (h0:a.code=b.code) (h1:a.kind=b.kind):a=b:=by
 cases a;cases b;simp_all
instance : DecidableEq Flow:=fun a b =>
 if h:a.code=b.code∧a.kind=b.kind then isTrue (Flow.ext' h.1 h.2)
 else isFalse fun e=>h (by subst e;exact ⟨rfl,rfl⟩)
def zeroF:Flow:=⟨⟨#[]⟩,0⟩
abbrev encF:Enc Flow:=⟨fun f=>[.string f.code,.int .i64 f.kind],2,fun _=>rfl,by decide,fun _ v hv=>by simp at hv;rcases hv with rfl | rfl <;> rfl⟩
abbrev FlowsV (w:World) (v:Value) (L:List Flow):Prop:=ElsV encF w v L
abbrev aggL (f:Flow):Value:=.agg #[.string f.code,.int .i64 f.kind]
theorem two {w:World} {b o:Nat} {f:Flow} (h:ElAt encF w b o f):w.cell? ⟨b,o,none⟩=some (.string f.code)∧w.cell? ⟨b,o+1,none⟩=some (.int .i64 f.kind):=⟨h 0 _ rfl,h 1 _ rfl⟩
theorem box {w:World} {b:Nat} {t:TypeId} {f:Flow} (h:BoxE encF w b t f):w.cell? ⟨b,0,none⟩=some (.string f.code)∧w.cell? ⟨b,1,none⟩=some (.int .i64 f.kind):=⟨h.at0 0 _ rfl,h.at0 1 _ rfl⟩
def rightF (f:Flow):Bool:=nmB f.code && decide (0≤f.kind) && decide (f.kind < 5)
def tFlow:ByteArray:=⟨#[102,108,111,119]⟩
def tOpen:ByteArray:=⟨#[111,112,101,110]⟩
def tMove:ByteArray:=⟨#[109,111,118,101]⟩
def tFx:ByteArray:=⟨#[102,120]⟩
def tScope:ByteArray:=⟨#[115,99,111,112,101]⟩
def tClose:ByteArray:=⟨#[99,108,111,115,101]⟩
def kindW (n:Int):ByteArray:=if n=0 then tOpen else if n=1 then tMove else if n=2 then tFx else if n=3 then tScope else tClose
def kindO (s:ByteArray):Int:=if s=tOpen then 0 else if s=tMove then 1 else if s=tFx then 2 else if s=tScope then 3 else if s=tClose then 4 else -1
def wordsF (f:Flow):List ByteArray:=if rightF f=true then [tFlow,f.code,kindW f.kind] else []
def parseF:List ByteArray→Flow × Int
 | [x,c,k]=>if x=tFlow∧rightF ⟨c,kindO k⟩=true then (⟨c,kindO k⟩,0) else (zeroF,5)
 | _=>(zeroF,5)
theorem right_parts {f:Flow} (h:rightF f=true):nmB f.code=true∧(f.kind=0∨f.kind=1∨f.kind=2∨f.kind=3∨f.kind=4):=by
 unfold rightF at h
 simp only [Bool.and_eq_true,decide_eq_true_eq] at h
 exact ⟨h.1.1,by omega⟩
theorem kindO_kindW {n:Int} (h:n=0∨n=1∨n=2∨n=3∨n=4):kindO (kindW n)=n:=by
 rcases h with rfl | rfl | rfl | rfl | rfl <;> decide
theorem kindW_kindO {s:ByteArray} (h:0≤kindO s):kindW (kindO s)=s:=by
 unfold kindO at h ⊢
 by_cases h0:s=tOpen
 ·subst h0;rfl
 by_cases h1:s=tMove
 ·subst h1;rfl
 by_cases h2:s=tFx
 ·subst h2;rfl
 by_cases h3:s=tScope
 ·subst h3;rfl
 by_cases h4:s=tClose
 ·subst h4;rfl
 ·rw [if_neg h0,if_neg h1,if_neg h2,if_neg h3,if_neg h4] at h;omega
theorem words_of {f:Flow} (h:rightF f=true):wordsF f=[tFlow,f.code,kindW f.kind]:=by unfold wordsF;rw [if_pos h]
theorem words_nil {f:Flow} (h:rightF f=false):wordsF f=[]:=by unfold wordsF;rw [h];rfl
theorem parse_three (x c k:ByteArray):parseF [x,c,k]=if x=tFlow∧rightF ⟨c,kindO k⟩=true then (⟨c,kindO k⟩,0) else (zeroF,5):=rfl
theorem parse_words {f:Flow} (h:rightF f=true):parseF (wordsF f)=(f,0):=by
 rw [words_of h,parse_three,kindO_kindW (right_parts h).2,if_pos ⟨rfl,h⟩]
theorem parse_err (ws:List ByteArray):parseF ws=(zeroF,5)∨(wordsF (parseF ws).1=ws∧rightF (parseF ws).1=true∧(parseF ws).2=0):=by
 unfold parseF
 split
 ·rename_i x c k
  split
  ·rename_i h
   right
   obtain ⟨rfl,h2⟩:=h
   refine ⟨?_,h2,rfl⟩
   rw [words_of h2]
   have h0:0≤kindO k:=by
    unfold rightF at h2
    simp only [Bool.and_eq_true,decide_eq_true_eq] at h2
    exact h2.1.2
   rw [kindW_kindO h0]
  ·exact .inl rfl
 ·exact .inl rfl
theorem parse_len {ws:List ByteArray} (h:ws.length≠3):parseF ws=(zeroF,5):=by
 match ws,h with
 | [],_ | [_],_ | [_,_],_ | _::_::_::_::_,_=>rfl
 | [_,_,_],h=>exact absurd rfl h
abbrev findF (L:List Flow) (c:ByteArray):Option Flow:=findK Flow.code L c
def ofF (L:List Flow) (k:Int):List ByteArray:=(L.filter fun f=>decide (f.kind=k)).map Flow.code
def hasF (L:List Flow) (k:Int):Bool:=decide (0 < (ofF L k).length)
def addE (L:List Flow) (f:Flow):Int:=if rightF f=false then 1 else if (isK Flow.code L f.code || (decide (f.kind≠1) && hasF L f.kind))=true then 7 else if 60≤L.length then 4 else 0
def addV (L:List Flow) (f:Flow):List Flow:=if addE L f=0 then insK Flow.code L f else L
def kindL (L:List Flow) (c:ByteArray):Int:=if isK Flow.code L c=true then ((L[placeK Flow.code L c]?).getD zeroF).kind else 0
def wholeF (L:List Flow):Bool:=hasF L 0 && hasF L 2 && hasF L 3 && hasF L 4
def onesF (L:List Flow):Prop:=∀ k:Int,(0≤k∧k < 5)→k≠1→(ofF L k).length≤1
instance (L:List Flow):Decidable (onesF L):=decidable_of_iff ((ofF L 0).length≤1∧(ofF L 2).length≤1∧(ofF L 3).length≤1∧(ofF L 4).length≤1) (by
 unfold onesF
 constructor
 ·rintro ⟨h0,h2,h3,h4⟩ k hk h1
  rcases (by omega:k=0∨k=2∨k=3∨k=4) with rfl | rfl | rfl | rfl <;> assumption
 ·intro h
  exact ⟨h 0 (by omega) (by omega),h 2 (by omega) (by omega),h 3 (by omega) (by omega),h 4 (by omega) (by omega)⟩)
def riseF (L:List Flow):Bool:=riseK Flow.code L && decide (onesF L)
theorem ofF_length (L:List Flow) (k:Int):(ofF L k).length=(L.filter fun f=>decide (f.kind=k)).length:=by simp [ofF]
theorem mem_of {L:List Flow} {k:Int} {c:ByteArray}:c∈ofF L k ↔ ∃ f∈L,f.kind=k∧f.code=c:=by
 unfold ofF
 simp only [List.mem_map,List.mem_filter,decide_eq_true_eq]
 constructor
 ·rintro ⟨f,⟨h1,h2⟩,h3⟩;exact ⟨f,h1,h2,h3⟩
 ·rintro ⟨f,h1,h2,h3⟩;exact ⟨f,⟨h1,h2⟩,h3⟩
theorem addE_zero {L:List Flow} {f:Flow} (hr:riseK Flow.code L=true) (h:addE L f=0):rightF f=true∧findF L f.code=none∧(f.kind≠1→(ofF L f.kind).length=0)∧L.length < 60:=by
 unfold addE at h
 cases hrf:rightF f with
 | false=>rw [hrf] at h;simp at h
 | true =>
   rw [hrf] at h
   simp only [Bool.true_eq_false,if_false] at h
   cases hb:(isK Flow.code L f.code || (decide (f.kind≠1) && hasF L f.kind)) with
   | true=>rw [hb] at h;simp at h
   | false =>
     rw [hb] at h
     simp only [Bool.false_eq_true,if_false] at h
     rw [Bool.or_eq_false_iff] at hb
     refine ⟨rfl,?_,fun hk=>?_,?_⟩
     ·have:=(isK_find hr f.code).1
      rw [hb.1] at this
      cases hf:findF L f.code with
      | none=>rfl
      | some x =>
        have hf':findK Flow.code L f.code=some x:=hf
        rw [hf'] at this;cases this
     ·have h2:=hb.2
      rw [decide_eq_true hk,Bool.true_and] at h2
      unfold hasF at h2
      have:=of_decide_eq_false h2
      omega
     ·split at h
      ·simp at h
      ·omega
theorem ones_ins {L:List Flow} {f:Flow} (h:onesF L) (hf:f.kind≠1→(ofF L f.kind).length=0):onesF (insK Flow.code L f):=by
 intro k hk h1
 rw [ofF_length]
 by_cases e:f.kind=k
 ·rw [filter_ins_length L (by simpa using e),←ofF_length]
  subst e
  rw [hf h1]
  exact Nat.le_refl _
 ·rw [filter_ins_no L (by simpa using e),←ofF_length]
  exact h k hk h1
theorem rise_ins {L:List Flow} {f:Flow} (hr:riseF L=true) (h:addE L f=0):riseF (insK Flow.code L f)=true:=by
 unfold riseF at hr ⊢
 rw [Bool.and_eq_true,decide_eq_true_eq] at hr ⊢
 obtain ⟨_,h2,h3,_⟩:=addE_zero hr.1 h
 exact ⟨riseK_ins L f hr.1 h2,ones_ins hr.2 h3⟩
theorem rise_codes {L:List Flow} (h:riseF L=true):riseK Flow.code L=true:=by
 unfold riseF at h;rw [Bool.and_eq_true] at h;exact h.1
theorem rise_ones {L:List Flow} (h:riseF L=true):onesF L:=by
 unfold riseF at h;rw [Bool.and_eq_true,decide_eq_true_eq] at h;exact h.2
theorem kind_of {L:List Flow} (hr:riseK Flow.code L=true) {k:Int} {c:ByteArray} (hc:c∈ofF L k):isK Flow.code L c=true∧kindL L c=k∧∃ f,findF L c=some f∧f.kind=k:=by
 obtain ⟨f,hf,rfl,rfl⟩:=mem_of.1 hc
 have h1:=findK_of_mem hr hf
 obtain ⟨h2,h3⟩:=isK_find hr f.code
 rw [h1] at h2 h3
 have h2':isK Flow.code L f.code=true:=h2
 refine ⟨h2',?_,f,h1,rfl⟩
 unfold kindL
 rw [if_pos h2',h3 h2'];rfl
def wholeTo (L:List Flow):Nat→Bool
 | 0=>true
 | i+1=>wholeTo L i && (decide ((i:Int)=1) || decide ((ofF L (i:Int)).length=1))
theorem whole_eq {L:List Flow} (h:onesF L):wholeTo L 5=wholeF L:=by
 have h0:=h 0 (by omega) (by omega)
 have h2:=h 2 (by omega) (by omega)
 have h3:=h 3 (by omega) (by omega)
 have h4:=h 4 (by omega) (by omega)
 have e:∀ n:Nat,n≤1→decide (n=1)=decide (0 < n):=fun n hn=>by
  rw [Bool.eq_iff_iff];simp;omega
 simp [wholeTo,wholeF,hasF,e _ h0,e _ h2,e _ h3,e _ h4]
end Go.Proofs.YthcpglnmhimepaaGreatDoor.Fl
end
section
namespace Go.Proofs.YthcpglnmhimepaaGreatDoor
open Go.RowKit
structure AcctAt (w:World) (b o:Nat) (a:Acct):Prop where
 c0:w.cell? ⟨b,o,none⟩=some (.string a.code)
 c1:w.cell? ⟨b,o+1,none⟩=some (.int .i64 a.cls)
 c2:w.cell? ⟨b,o+2,none⟩=some (.bool a.cash)
 c3:w.cell? ⟨b,o+3,none⟩=some (.bool a.both)
 c4:w.cell? ⟨b,o+4,none⟩=some (.string a.fixed)
 c5:w.cell? ⟨b,o+5,none⟩=some (.bool a.worn)
theorem AcctAt.lt {w:World} {b o:Nat} {a:Acct} (h:AcctAt w b o a):b < w.heap.size:=World.block_lt_of_cell? w _ h.c0
theorem AcctAt.keep {w w':World} {b o B:Nat} {a:Acct} (h:AcctAt w b o a) (hb:Below B w w') (hB:b < B):AcctAt w' b o a :=
 ⟨(hb.cell (p:=⟨b,_,none⟩) hB).trans h.c0,(hb.cell (p:=⟨b,_,none⟩) hB).trans h.c1,(hb.cell (p:=⟨b,_,none⟩) hB).trans h.c2,(hb.cell (p:=⟨b,_,none⟩) hB).trans h.c3,(hb.cell (p:=⟨b,_,none⟩) hB).trans h.c4,(hb.cell (p:=⟨b,_,none⟩) hB).trans h.c5⟩
theorem acct_of {w:World} {b o:Nat} {a:Acct} (h:∀ j v,a.cells[j]?=some v→w.cell? ⟨b,o+j,none⟩=some v):AcctAt w b o a :=
 ⟨h 0 _ rfl,h 1 _ rfl,h 2 _ rfl,h 3 _ rfl,h 4 _ rfl,h 5 _ rfl⟩
theorem AcctAt.cell {w:World} {b o:Nat} {a:Acct} (h:AcctAt w b o a):∀ (j:Nat) v,a.cells[j]?=some v→w.cell? ⟨b,o+j,none⟩=some v
 | 0,_,e=>by cases e;exact h.c0
 | 1,_,e=>by cases e;exact h.c1
 | 2,_,e=>by cases e;exact h.c2
 | 3,_,e=>by cases e;exact h.c3
 | 4,_,e=>by cases e;exact h.c4
 | 5,_,e=>by cases e;exact h.c5
 | j+6,_,e=>by simp [Acct.cells] at e
def ChartV (w:World) (v:Value) (L:List Acct):Prop :=
 ∃ p c,v=.slice p L.length c∧L.length≤c∧c≤maxLen∧(p=none→c=0)∧∀ (i:Nat) (x:Acct),L[i]?=some x→∃ b o,p=some ⟨b,o,none⟩∧AcctAt w b (o+i * 6) x
theorem ChartV.nil (w:World):ChartV w (.slice none 0 0) []:=⟨none,0,rfl,by simp,by simp,fun _=>rfl,fun i x h=>by simp at h⟩
theorem ChartV.keep {w w':World} {v:Value} {L:List Acct} (h:ChartV w v L) (hb:Below w.heap.size w w'):ChartV w' v L:=by
 obtain ⟨a,c,e,h1,h2,h3,hc⟩:=h
 exact ⟨a,c,e,h1,h2,h3,fun i x hx=>by
  obtain ⟨b,o,ea,hx'⟩:=hc i x hx
  exact ⟨b,o,ea,hx'.keep hb hx'.lt⟩⟩
def flatA (L:List Acct):List Value:=L.flatMap Acct.cells
theorem flatA_cons (a:Acct) (L:List Acct):flatA (a::L)=a.cells++flatA L:=rfl
theorem flatA_append (L M:List Acct):flatA (L++M)=flatA L++flatA M:=by simp [flatA]
theorem flatA_length (L:List Acct):(flatA L).length=L.length * 6:=by
 induction L with
 | nil=>rfl
 | cons a L ih=>rw [flatA_cons];simp [ih,Acct.cells];omega
theorem flatA_at:∀ (L:List Acct) (i:Nat) (x:Acct),L[i]?=some x→∀ (j:Nat) v,x.cells[j]?=some v→(flatA L)[i * 6+j]?=some v
 | [],i,x,h=>by simp at h
 | y::L,0,x,h=>by
   simp at h
   subst h
   intro j v hj
   have:j < y.cells.length:=(List.getElem?_eq_some_iff.1 hj).1
   rw [flatA_cons,Nat.zero_mul,Nat.zero_add,List.getElem?_append_left this];exact hj
 | y::L,i+1,x,h=>fun j v hj=>by
   have ih:=flatA_at L i x (by simpa using h) j v hj
   rw [flatA_cons,show (i+1) * 6+j=y.cells.length+(i * 6+j) by simp [Acct.cells];omega,List.getElem?_append_right (by omega)]
   simpa using ih
theorem flatA_of {L:List Acct} {k:Nat} {v:Value} (h:(flatA L)[k]?=some v):∃ x,L[k / 6]?=some x∧x.cells[k % 6]?=some v:=by
 have hk:k < L.length * 6:=by rw [←flatA_length];exact (List.getElem?_eq_some_iff.1 h).1
 have hi:k / 6 < L.length:=by omega
 refine ⟨L[k / 6],List.getElem?_eq_getElem hi,?_⟩
 have hj:k % 6 < (L[k / 6]).cells.length:=by simp [Acct.cells];omega
 have:=flatA_at L (k / 6) _ (List.getElem?_eq_getElem hi) (k % 6) _ (List.getElem?_eq_getElem hj)
 rw [show k / 6 * 6+k % 6=k by omega,h] at this
 rw [List.getElem?_eq_getElem hj,this]
theorem flatA_one (L:List Acct):∀ v∈flatA L,v.oneCell'=true:=by
 intro v hv
 obtain ⟨a,_,ha⟩:=List.mem_flatMap.1 hv
 simp [Acct.cells] at ha
 rcases ha with rfl | rfl | rfl | rfl | rfl | rfl <;> rfl
theorem flatA_take (L:List Acct) (k:Nat):flatA (L.take k)=(flatA L).take (k * 6):=by
 induction L generalizing k with
 | nil=>simp [flatA]
 | cons a L ih =>
   cases k with
   | zero=>simp [flatA]
   | succ k =>
     rw [List.take_succ_cons,flatA_cons,flatA_cons,ih,List.take_append]
     have:a.cells.length=6:=rfl
     rw [this,show (k+1) * 6 - 6=k * 6 by omega,List.take_of_length_le (l:=a.cells) (by rw [this];omega)]
theorem flatA_drop (L:List Acct) (k:Nat):flatA (L.drop k)=(flatA L).drop (k * 6):=by
 induction L generalizing k with
 | nil=>simp [flatA]
 | cons a L ih =>
   cases k with
   | zero=>simp
   | succ k =>
     rw [List.drop_succ_cons,flatA_cons,ih,List.drop_append]
     have:a.cells.length=6:=rfl
     rw [this,show (k+1) * 6 - 6=k * 6 by omega,List.drop_of_length_le (l:=a.cells) (by rw [this];omega),List.nil_append]
theorem ChartV.cells {w:World} {p:Option Addr} {n c:Nat} {L:List Acct} (h:ChartV w (.slice p n c) L) (hL:L≠[]):∃ b o,p=some ⟨b,o,none⟩∧b < w.heap.size∧∀ (j:Nat) v,(flatA L)[j]?=some v→w.cell? ⟨b,o+j,none⟩=some v:=by
 obtain ⟨p',c',e,_,_,_,hc⟩:=h
 cases e
 cases L with
 | nil=>exact absurd rfl hL
 | cons a L =>
   obtain ⟨b,o,rfl,h0⟩:=hc 0 a rfl
   refine ⟨b,o,rfl,h0.lt,fun j v hj=>?_⟩
   obtain ⟨x,hx,hv⟩:=flatA_of hj
   obtain ⟨b',o',e',h1⟩:=hc _ x hx
   cases e'
   have:=h1.cell _ v hv
   rwa [Nat.add_assoc,show j / 6 * 6+j % 6=j by omega] at this
theorem chart_of_own {w:World} {B:Nat} {e:TypeId} {v:Value} {L:List Acct} (h:w.ownsRow B e 6 v L.length (flatA L)):ChartV w v L:=by
 have h0:=h
 rcases h.2 with ⟨rfl,hn⟩ | ⟨g,cap,cur,rfl,_,_,hnc,hcm,_⟩
 ·have:L=[]:=List.eq_nil_of_length_eq_zero hn
  subst this
  exact ChartV.nil w
 ·refine ⟨_,cap,rfl,hnc,hcm,(fun e=>by cases e),fun i x hx=>⟨g,0,rfl,acct_of fun j u hj=>?_⟩⟩
  have:=h0.cells (g:=g) rfl _ _ (flatA_at L i x hx j u hj)
  rwa [add_off,←Nat.add_assoc] at this
end Go.Proofs.YthcpglnmhimepaaGreatDoor
end
section
namespace Go.Proofs.YthcpglnmhimepaaGreatDoor
open Go.RowKit
theorem new_cells (w:World) (cs:List Value) (t:TypeId):∀ (j:Nat) u,cs[j]?=some u→(w.alloc (.cells cs.toArray t)).cell? ((⟨w.heap.size,0,none⟩:Addr).add j)=some u:=fun j u hj=>by
 rw [add_off,Nat.zero_add,cell_of_row _ w.heap.size j _ t (0,0) (heap_alloc_new w _)]
 simpa using hj
theorem new_cells2 (w:World) (o:Obj) (cs:List Value) (t:TypeId):∀ (j:Nat) u,cs[j]?=some u→((w.alloc o).alloc (.cells cs.toArray t)).cell? ((⟨w.heap.size+1,0,none⟩:Addr).add j)=some u:=fun j u hj=>by
 have:=new_cells (w.alloc o) cs t j u hj
 rwa [World.size_alloc] at this
end Go.Proofs.YthcpglnmhimepaaGreatDoor
end
