/- SortedG UnitPlain Past MapEntry CopyK ChartWordsSame -/
import Derived.BigQuiet
import Derived.Deep.LoopGhost
import Derived.Deep.QuietTactic
import Derived.Laws.CopyOwn
import Derived.Lib.AppendZerosOnto
import Derived.Lib.Overlaps
import Derived.LoopTactic
import Derived.Maps.Own
import Derived.Maps.OwnOps
import Derived.Maps.Views
import Derived.WideKeyEntry
import Derived.Test.YthcpglnmhimepaaGreatDoorS03
section
namespace Go.Proofs.YthcpglnmhimepaaGreatDoor.G
open Go.RowKit
class KeyO (κ:Type) where
 lt:κ→κ→Bool
 trans:∀ {x y z:κ},lt x y=true→lt y z=true→lt x z=true
 irr:∀ x:κ,lt x x=false
 total:∀ {x y:κ},lt x y=false→x≠y→lt y x=true
instance : KeyO ByteArray:=⟨ltS,ltS_trans,ltS_irr,ltS_total⟩
def ltP (x y:ByteArray × ByteArray):Bool:=ltS x.1 y.1 || (decide (x.1=y.1) && ltS x.2 y.2)
theorem ltP_iff (x y:ByteArray × ByteArray):ltP x y=true ↔ ltS x.1 y.1=true∨(x.1=y.1∧ltS x.2 y.2=true):=by simp [ltP]
instance : KeyO (ByteArray × ByteArray) where
 lt:=ltP
 trans:=by
  intro x y z h1 h2
  rw [ltP_iff] at *
  rcases h1 with h1 | ⟨e1,h1⟩ <;> rcases h2 with h2 | ⟨e2,h2⟩
  ·exact .inl (ltS_trans h1 h2)
  ·exact .inl (by rw [←e2];exact h1)
  ·exact .inl (by rw [e1];exact h2)
  ·exact .inr ⟨e1.trans e2,ltS_trans h1 h2⟩
 irr:=by intro x;simp [ltP,ltS_irr]
 total:=by
  intro x y h hne
  rw [ltP_iff]
  simp only [ltP,Bool.or_eq_false_iff,Bool.and_eq_false_iff,decide_eq_false_iff_not] at h
  by_cases e:x.1=y.1
  ·refine .inr ⟨e.symm,ltS_total ?_ (fun e2=>hne (Prod.ext e e2))⟩
   rcases h.2 with h2 | h2
   ·exact absurd e h2
   ·exact h2
  ·exact .inl (ltS_total h.1 e)
section
variable {α κ:Type} [KeyO κ] (key:α→κ)
def placeK:List α→κ→Nat
 | [],_=>0
 | a::L,c=>if KeyO.lt (key a) c=true then placeK L c+1 else 0
def insK (L:List α) (x:α):List α:=L.take (placeK key L (key x))++x::L.drop (placeK key L (key x))
def riseK:List α→Bool
 | a::b::L=>KeyO.lt (key a) (key b) && riseK (b::L)
 | _=>true
variable {key}
theorem placeK_le (L:List α) (c:κ):placeK key L c≤L.length:=by
 induction L with
 | nil=>exact Nat.le_refl _
 | cons a L ih=>simp only [placeK];split <;> simp;omega
theorem insK_length (L:List α) (x:α):(insK key L x).length=L.length+1:=by
 have:=placeK_le (key:=key) L (key x)
 simp [insK];omega
theorem insK_cons (a x:α) (L:List α):insK key (a::L) x=if KeyO.lt (key a) (key x)=true then a::insK key L x else x::a::L:=by
 unfold insK
 simp only [placeK]
 split <;> simp
theorem mem_ins {L:List α} {x y:α}:y∈insK key L x ↔ y=x∨y∈L:=by
 unfold insK
 rw [List.mem_append,List.mem_cons]
 constructor
 ·rintro (h | h | h)
  ·exact .inr (List.mem_of_mem_take h)
  ·exact .inl h
  ·exact .inr (List.mem_of_mem_drop h)
 ·rintro (h | h)
  ·exact .inr (.inl h)
  ·rw [←List.take_append_drop (placeK key L (key x)) L,List.mem_append] at h
   rcases h with h | h
   ·exact .inl h
   ·exact .inr (.inr h)
theorem filter_ins_no {p:α→Bool} (L:List α) {x:α} (h:p x=false):(insK key L x).filter p=L.filter p:=by
 unfold insK
 rw [List.filter_append,List.filter_cons,h]
 simp only [Bool.false_eq_true,if_false]
 rw [←List.filter_append,List.take_append_drop]
theorem filter_ins_length {p:α→Bool} (L:List α) {x:α} (h:p x=true):((insK key L x).filter p).length=(L.filter p).length+1:=by
 have e:(L.filter p).length=((L.take (placeK key L (key x))).filter p).length+((L.drop (placeK key L (key x))).filter p).length:=by
  rw [←List.length_append,←List.filter_append,List.take_append_drop]
 unfold insK
 rw [List.filter_append,List.filter_cons,h]
 simp only [if_true,List.length_append,List.length_cons]
 omega
theorem riseK_tail {a:α} {L:List α} (h:riseK key (a::L)=true):riseK key L=true:=by
 cases L with
 | nil=>rfl
 | cons b L=>simp only [riseK,Bool.and_eq_true] at h;exact h.2
theorem riseK_head {a:α} {L:List α} (h:riseK key (a::L)=true):∀ y∈L,KeyO.lt (key a) (key y)=true:=by
 induction L generalizing a with
 | nil=>intro y hy;cases hy
 | cons b L ih =>
   simp only [riseK,Bool.and_eq_true] at h
   intro y hy
   rcases List.mem_cons.1 hy with rfl | hy
   ·exact h.1
   ·exact KeyO.trans h.1 (ih h.2 y hy)
theorem riseK_cons {a:α} {L:List α} (h1:∀ y∈L,KeyO.lt (key a) (key y)=true) (h2:riseK key L=true):riseK key (a::L)=true:=by
 cases L with
 | nil=>rfl
 | cons b L=>simp only [riseK,Bool.and_eq_true];exact ⟨h1 b List.mem_cons_self,h2⟩
theorem riseK_at {L:List α} (h:riseK key L=true) {i j:Nat} {x y:α} (hij:i < j) (hx:L[i]?=some x) (hy:L[j]?=some y):KeyO.lt (key x) (key y)=true:=by
 induction L generalizing i j with
 | nil=>simp at hx
 | cons a L ih =>
   cases j with
   | zero=>omega
   | succ j =>
     cases i with
     | zero =>
       simp at hx hy
       subst hx
       exact riseK_head h y (List.mem_of_getElem? hy)
     | succ i =>
       simp at hx hy
       exact ih (riseK_tail h) (by omega) hx hy
theorem riseK_uniq {L:List α} (h:riseK key L=true) {x y:α} (hx:x∈L) (hy:y∈L) (e:key x=key y):x=y:=by
 obtain ⟨i,hi,hix⟩:=List.getElem_of_mem hx
 obtain ⟨j,hj,hjy⟩:=List.getElem_of_mem hy
 have h1:L[i]?=some x:=by rw [List.getElem?_eq_getElem hi,hix]
 have h2:L[j]?=some y:=by rw [List.getElem?_eq_getElem hj,hjy]
 rcases Nat.lt_trichotomy i j with hl | hl | hl
 ·have:=riseK_at h hl h1 h2;rw [e,KeyO.irr] at this;cases this
 ·subst hl;rw [h1] at h2;exact Option.some.inj h2
 ·have:=riseK_at h hl h2 h1;rw [e,KeyO.irr] at this;cases this
theorem placeK_at {L:List α} {c:κ} {i:Nat} (hi:i≤L.length) (hb:∀ (j:Nat) (y:α),j < i→L[j]?=some y→KeyO.lt (key y) c=true) (hx:∀ y,L[i]?=some y→KeyO.lt (key y) c=false):placeK key L c=i:=by
 induction L generalizing i with
 | nil=>simp at hi;subst hi;rfl
 | cons a L ih =>
   cases i with
   | zero=>simp only [placeK,hx a rfl,Bool.false_eq_true,if_false]
   | succ i =>
     simp only [placeK,hb 0 a (by omega) rfl,if_true]
     rw [ih (i:=i) (by simpa using hi) (fun j y hj hy=>hb (j+1) y (by omega) (by simpa using hy)) (fun y hy=>hx y (by simpa using hy))]
theorem placeK_below {L:List α} {c:κ}:∀ (j:Nat) (y:α),j < placeK key L c→L[j]?=some y→KeyO.lt (key y) c=true:=by
 induction L with
 | nil=>intro j y _ h;simp at h
 | cons a L ih =>
   intro j y hj hy
   simp only [placeK] at hj
   split at hj
   ·cases j with
    | zero=>simp at hy;subst hy;assumption
    | succ j=>exact ih j y (by omega) (by simpa using hy)
   ·omega
theorem placeK_there {L:List α} {c:κ} {y:α} (h:L[placeK key L c]?=some y):KeyO.lt (key y) c=false:=by
 induction L with
 | nil=>simp at h
 | cons a L ih =>
   simp only [placeK] at h
   split at h
   ·exact ih (by simpa using h)
   ·simp at h;subst h;simp_all
theorem ins_perm (L:List α) (x:α):(insK key L x).Perm (x::L):=by
 unfold insK
 refine (List.perm_middle).trans ?_
 rw [List.take_append_drop]
def insR (key:α→κ):List α→α→List α
 | [],x=>[x]
 | a::L,x=>if KeyO.lt (key x) (key a)=true then x::a::L else a::insR key L x
end
section
variable {α κ:Type} [DecidableEq κ] (key:α→κ)
def findK:List α→κ→Option α
 | [],_=>none
 | a::L,c=>if key a=c then some a else findK L c
variable {key}
theorem findK_mem {L:List α} {c:κ} {x:α} (h:findK key L c=some x):key x=c∧x∈L:=by
 induction L with
 | nil=>cases h
 | cons a L ih =>
   simp only [findK] at h
   split at h
   ·cases h;exact ⟨by assumption,List.mem_cons_self⟩
   ·exact ⟨(ih h).1,List.mem_cons_of_mem _ (ih h).2⟩
theorem findK_no {L:List α} {c:κ} (h:findK key L c=none):∀ x∈L,key x≠c:=by
 induction L with
 | nil=>intro x hx;cases hx
 | cons a L ih =>
   simp only [findK] at h
   split at h
   ·cases h
   ·intro x hx
    rcases List.mem_cons.1 hx with rfl | hx
    ·assumption
    ·exact ih h x hx
theorem findK_none {L:List α} {c:κ} (h:∀ x∈L,key x≠c):findK key L c=none:=by
 cases hf:findK key L c with
 | none=>rfl
 | some x=>exact absurd (findK_mem hf).1 (h x (findK_mem hf).2)
end
section
variable {α κ:Type} [DecidableEq κ] [KeyO κ] {key:α→κ}
theorem findK_ins (L:List α) (x:α) (c:κ) (h:findK key L (key x)=none):findK key (insK key L x) c=if key x=c then some x else findK key L c:=by
 induction L with
 | nil=>simp [insK,placeK,findK]
 | cons a L ih =>
   simp only [findK] at h
   split at h
   ·cases h
   ·rename_i hne
    rw [insK_cons]
    split
    ·simp only [findK]
     rw [ih h]
     by_cases h1:key a=c
     ·have:key x≠c:=fun e=>hne (by rw [h1,e])
      simp [h1,this]
     ·simp [h1]
    ·simp [findK]
theorem riseK_ins (L:List α) (x:α) (hr:riseK key L=true) (h:findK key L (key x)=none):riseK key (insK key L x)=true:=by
 induction L with
 | nil=>rfl
 | cons a L ih =>
   have hne:key a≠key x:=findK_no h a List.mem_cons_self
   rw [insK_cons]
   split
   ·rename_i hg
    refine riseK_cons (fun y hy=>?_) (ih (riseK_tail hr) (findK_none fun y hy=>findK_no h y (List.mem_cons_of_mem _ hy)))
    rcases mem_ins.1 hy with rfl | hy
    ·exact hg
    ·exact riseK_head hr y hy
   ·rename_i hg
    have hlt:KeyO.lt (key x) (key a)=true:=KeyO.total (by simpa using hg) hne
    simp only [riseK,Bool.and_eq_true]
    exact ⟨hlt,hr⟩
theorem findK_of_mem {L:List α} (h:riseK key L=true) {x:α} (hx:x∈L):findK key L (key x)=some x:=by
 cases hf:findK key L (key x) with
 | none=>exact absurd rfl (findK_no hf x hx)
 | some y=>rw [riseK_uniq h (findK_mem hf).2 hx (findK_mem hf).1]
def isK (key:α→κ) (L:List α) (c:κ):Bool:=match L[placeK key L c]? with
 | some x=>decide (key x=c)
 | none=>false
theorem isK_find {L:List α} (h:riseK key L=true) (c:κ):isK key L c=(findK key L c).isSome∧(isK key L c=true→L[placeK key L c]?=findK key L c):=by
 unfold isK
 cases hp:L[placeK key L c]? with
 | none =>
   have hlen:L.length≤placeK key L c:=List.getElem?_eq_none_iff.1 hp
   have hf:findK key L c=none:=findK_none fun x hx e=>by
    obtain ⟨i,hi,hix⟩:=List.getElem_of_mem hx
    have:=placeK_below (key:=key) (L:=L) (c:=c) i x (by omega) (by rw [List.getElem?_eq_getElem hi,hix])
    rw [e,KeyO.irr] at this;cases this
   rw [hf];exact ⟨rfl,fun h=>by cases h⟩
 | some x =>
   simp only
   by_cases e:key x=c
   ·have hm:=List.mem_of_getElem? hp
    have hf:=findK_of_mem h hm
    rw [e] at hf
    rw [hf];exact ⟨by simp [e],fun _=>rfl⟩
   ·have hf:findK key L c=none:=findK_none fun y hy ey=>by
     obtain ⟨i,hi,hiy⟩:=List.getElem_of_mem hy
     have h1:L[i]?=some y:=by rw [List.getElem?_eq_getElem hi,hiy]
     rcases Nat.lt_trichotomy i (placeK key L c) with hl | hl | hl
     ·have:=placeK_below (key:=key) (L:=L) (c:=c) i y hl h1;rw [ey,KeyO.irr] at this;cases this
     ·rw [hl,hp] at h1;cases h1;exact e ey
     ·have h2:=riseK_at h hl hp h1
      rw [ey,placeK_there hp] at h2;cases h2
    rw [hf];exact ⟨by simp [e],fun h=>by simp [e] at h⟩
theorem insR_eq {L:List α} {x:α} (hr:riseK key L=true) (h:findK key L (key x)=none):insR key L x=insK key L x:=by
 induction L with
 | nil=>rfl
 | cons a L ih =>
   have hne:key a≠key x:=findK_no h a List.mem_cons_self
   rw [insK_cons]
   simp only [insR]
   by_cases hl:KeyO.lt (key x) (key a)=true
   ·have:KeyO.lt (key a) (key x)=false:=by
     cases h2:KeyO.lt (key a) (key x) with
     | false=>rfl
     | true=>have:=KeyO.trans hl h2;rw [KeyO.irr] at this;cases this
    rw [if_pos hl,if_neg (by rw [this];simp)]
   ·have h2:=KeyO.total (by simpa using hl) (fun e=>hne e.symm)
    rw [if_neg hl,if_pos h2,ih (riseK_tail hr) (findK_none fun y hy=>findK_no h y (List.mem_cons_of_mem _ hy))]
end
end Go.Proofs.YthcpglnmhimepaaGreatDoor.G
end
section
namespace Go.Proofs.YthcpglnmhimepaaGreatDoor.Un
open Go.RowKit
structure Ent where
 code:ByteArray
 cur:ByteArray
structure Lin where
 acc:ByteArray
 flow:ByteArray
 goal:ByteArray
theorem Ent.ext' {a b:Ent} (h0:a.code=b.code) (h1:a.cur=b.cur):a=b:=by
 cases a;cases b;simp_all
theorem Lin.ext' {a b:Lin} (h0:a.acc=b.acc) (h1:a.flow=b.flow) (h2:a.goal=b.goal):a=b:=by
 cases a;cases b;simp_all
instance : DecidableEq Ent:=fun a b =>
 if h:a.code=b.code∧a.cur=b.cur then isTrue (Ent.ext' h.1 h.2)
 else isFalse fun e=>h (by subst e;exact ⟨rfl,rfl⟩)
instance : DecidableEq Lin:=fun a b =>
 if h:a.acc=b.acc∧a.flow=b.flow∧a.goal=b.goal then isTrue (Lin.ext' h.1 h.2.1 h.2.2)
 else isFalse fun e=>h (by subst e;exact ⟨rfl,rfl,rfl⟩)
def Lin.key (x:Lin):ByteArray × ByteArray:=(x.acc,x.flow)
abbrev encE:Enc Ent:=⟨fun e=>[.string e.code,.string e.cur],2,fun _=>rfl,by decide,fun _ v hv=>by simp at hv;rcases hv with rfl | rfl <;> rfl⟩
abbrev encL:Enc Lin:=⟨fun e=>[.string e.acc,.string e.flow,.string e.goal],3,fun _=>rfl,by decide,fun _ v hv=>by simp at hv;rcases hv with rfl | rfl | rfl <;> rfl⟩
abbrev encA:Enc Acct:=⟨Acct.cells,6,fun _=>rfl,by decide,fun a v hv=>by simp [Acct.cells] at hv;rcases hv with rfl | rfl | rfl | rfl | rfl | rfl <;> rfl⟩
abbrev emp:ByteArray:=⟨#[]⟩
structure Mast where
 chart:List Acct
 flows:List Fl.Flow
 ents:List Ent
 lines:List Lin
 cur:ByteArray
 res:ByteArray
 dif:ByteArray
 min:ByteArray
 stk:ByteArray
def zeroM:Mast:=⟨[],[],[],[],emp,emp,emp,emp,emp⟩
def tEntity:ByteArray:=⟨#[101,110,116,105,116,121]⟩
def tMap:ByteArray:=⟨#[109,97,112]⟩
def tGroup:ByteArray:=⟨#[103,114,111,117,112]⟩
def tReserve:ByteArray:=⟨#[114,101,115,101,114,118,101]⟩
def tDiffer:ByteArray:=⟨#[100,105,102,102,101,114]⟩
def tMinor:ByteArray:=⟨#[109,105,110,111,114]⟩
def tStake:ByteArray:=⟨#[115,116,97,107,101]⟩
def lenW (h:ByteArray):Int :=
 if h=tGroup∨h=tReserve∨h=tDiffer∨h=tMinor∨h=tStake then 2 else if h=tEntity then 3 else if h=tMap then 4 else 0
def wd (ws:List ByteArray) (i:Nat):ByteArray:=ws.getD i emp
def namesW (ws:List ByteArray):Bool:=(ws.drop 1).all nmB
def formedW (ws:List ByteArray):Bool:=decide (0 < ws.length) && (decide ((ws.length:Int)=lenW (wd ws 0)) && namesW ws)
def entOf (ws:List ByteArray):Ent:=⟨wd ws 1,wd ws 2⟩
def linOf (ws:List ByteArray):Lin:=⟨wd ws 1,wd ws 2,wd ws 3⟩
def entE (L:List Ent) (x:Ent):Int:=if (G.findK Ent.code L x.code).isSome=true then 7 else if 60≤L.length then 4 else 0
def linEr (L:List Lin) (x:Lin):Int:=if (G.findK Lin.key L x.key).isSome=true then 7 else if 1000≤L.length then 4 else 0
def oneE (x:ByteArray):Int:=if x=emp then 0 else 7
def stepE (M:Mast) (ws:List ByteArray):Int :=
 if wd ws 0=tAccount then (if (parseA ws).2=0 then addE M.chart (parseA ws).1 else (parseA ws).2)
 else if wd ws 0=Fl.tFlow then (if (Fl.parseF ws).2=0 then Fl.addE M.flows (Fl.parseF ws).1 else (Fl.parseF ws).2)
 else if formedW ws=false then 5
 else if wd ws 0=tEntity then entE M.ents (entOf ws)
 else if wd ws 0=tMap then linEr M.lines (linOf ws)
 else if wd ws 0=tGroup then oneE M.cur
 else if wd ws 0=tReserve then oneE M.res
 else if wd ws 0=tDiffer then oneE M.dif
 else if wd ws 0=tMinor then oneE M.min
 else oneE M.stk
def stepV (M:Mast) (ws:List ByteArray):Mast :=
 if wd ws 0=tAccount then { M with chart:=insL M.chart (parseA ws).1 }
 else if wd ws 0=Fl.tFlow then { M with flows:=insK Fl.Flow.code M.flows (Fl.parseF ws).1 }
 else if wd ws 0=tEntity then { M with ents:=G.insK Ent.code M.ents (entOf ws) }
 else if wd ws 0=tMap then { M with lines:=G.insK Lin.key M.lines (linOf ws) }
 else if wd ws 0=tGroup then { M with cur:=wd ws 1 }
 else if wd ws 0=tReserve then { M with res:=wd ws 1 }
 else if wd ws 0=tDiffer then { M with dif:=wd ws 1 }
 else if wd ws 0=tMinor then { M with min:=wd ws 1 }
 else { M with stk:=wd ws 1 }
def runM:Mast→List (List ByteArray)→Mast × Int
 | M,[]=>(M,0)
 | M,ws::r=>if stepE M ws=0 then runM (stepV M ws) r else (zeroM,stepE M ws)
def hasA (c:List Acct) (s:ByteArray):Bool:=(findL c s).isSome
def rolesN (M:Mast):Bool:=hasA M.chart M.res && hasA M.chart M.dif && hasA M.chart M.min && hasA M.chart M.stk
def lineN (M:Mast) (x:Lin):Bool:=hasA M.chart x.acc && isK Fl.Flow.code M.flows x.flow
def linesN (M:Mast):Bool:=M.lines.all (lineN M)
def plainA (c:List Acct) (s:ByteArray) (cls:Int):Bool:=decide ((findL c s).getD zeroA=⟨s,cls,false,false,emp,false⟩)
def rolesP (M:Mast):Bool:=plainA M.chart M.res 2 && plainA M.chart M.dif 0 && plainA M.chart M.min 2 && plainA M.chart M.stk 0
def allE (M:Mast):Int :=
 if (decide (M.cur=emp) || !rolesN M || !linesN M)=true then 6
 else if Fl.wholeF M.flows=false then 8
 else if rolesP M=false then 15 else 0
def endM (r:Mast × Int):Mast × Int:=if r.2=0 then (if allE r.1=0 then r else (zeroM,allE r.1)) else (zeroM,r.2)
def linesM (l:List (List ByteArray)):Mast × Int:=endM (runM zeroM l)
def wordsT (s:ByteArray):List (List ByteArray):=(asB (linV s.data.toList)).map (·.2)
def parseM (s:ByteArray):Mast × Int:=if linE s.data.toList=0 then linesM (wordsT s) else (zeroM,linE s.data.toList)
theorem runM_cons (M:Mast) (ws:List ByteArray) (r:List (List ByteArray)) (h:stepE M ws=0):runM M (ws::r)=runM (stepV M ws) r:=by simp [runM,h]
theorem runM_stop (M:Mast) (ws:List ByteArray) (r:List (List ByteArray)) (h:stepE M ws≠0):runM M (ws::r)=(zeroM,stepE M ws):=by simp [runM,h]
theorem endM_stop (n:Int) (h:n≠0):endM (zeroM,n)=(zeroM,n):=by simp [endM,h]
theorem endM_no (M:Mast) (h:allE M≠0):endM (M,0)=(zeroM,allE M):=by simp [endM,h]
theorem endM_ok (M:Mast) (h:allE M=0):endM (M,0)=(M,0):=by simp [endM,h]
end Go.Proofs.YthcpglnmhimepaaGreatDoor.Un
end
section
namespace Go.Proofs.YthcpglnmhimepaaGreatDoor
open Go.RowKit
structure Past (w:World) where
 goal:World
 below:Below w.heap.size w goal
instance (w:World):Nonempty (Past w):=⟨⟨w,Below.refl _ _⟩⟩
theorem wp_region_past {P:Program} {id:Nat} {Q:Exit→Act→World→Prop} {a:Act} {w:World} {l:List Oper} (hm:P.follows .mixedOrders=true) (hB:Region.lexB .any l.toArray=true)
 (h:wpQuiet P l.toArray (fun w'=>∃ p:Past w,w'=p.goal) (fun a'=>∀ w',(∃ p:Past w,w'=p.goal)→Q .normal a' w') l a):(Code.region id l.toArray true).wp P Q a w :=
 wp_region_quiet (C:=fun w'=>∃ p:Past w,w'=p.goal) hm hB ⟨⟨w.drew,⟨rfl,rfl,rfl,Nat.le_refl _,fun _ _=>rfl⟩⟩,rfl⟩ (by simpa using h)
theorem cell_past {w:World} {ad:Addr} {v:Value} (h:w.cell? ad=some v) (p:Past w):p.goal.cell? ad=some v :=
 (p.below.cell (World.block_lt_of_cell? w _ h)).trans h
theorem Calls.past_of {P:Program} {f:FuncId} {args:Array Value} {w:World} {p:Past w} {v:Value} (h:Calls P f args p.goal fun e w'=>e=.returned v∧Below p.goal.heap.size p.goal w') :
 Calls P f args p.goal fun e w''=>e=.returned v∧∃ p':Past w,w''=p'.goal :=
 h.mono fun _ w'' ⟨he,hb⟩=>⟨he,⟨w'',p.below.trans (hb.mono p.below.size)⟩,rfl⟩
end Go.Proofs.YthcpglnmhimepaaGreatDoor
end
section
namespace Go.Proofs.YthcpglnmhimepaaGreatDoor
open Go.RowKit Go.Maps Go.WideElems Go.ChangeShapes Go.WideShapes Go.MapKept Go.ChangeMaps
section
variable {H:Type} {P:Program} {w:World} {t k e:TypeId} {R:Value→Option (DataW H × List MemPlace)} {b n:Nat} {D:DataW H}
theorem grownBy_block (w:World) {b:Nat} {es:Array MapEntry} {c:Nat} (hb:w.heap[b]?=some (.map es c)) (o:Obj):w.grownBy (setBlock w b o) (some b) :=
 ⟨rfl,rfl,rfl,by simp [setBlock],fun i _ hi=>heap_setBlock_other hb _ (fun e=>hi (by rw [e]))⟩
theorem setBlock_set (w:World) (b:Nat) (o o':Obj):setBlock (setBlock w b o) b o'=setBlock w b o':=by
 unfold setBlock
 simp
theorem run_inj {α:Type} {a a':α} {x y:World} {r:Result α} (h1:r=.ok a x) (h2:r=.ok a' y):x=y:=by
 rw [h1] at h2;injection h2
theorem own_entry (h:w.ownsMap P k R b n D) (K:Keyed P k) (ht:P.underlying t=some (.map k e)) {z:Value} (hz:∀ u:World,(zeroValue e).run P u=.ok z u) {zd:DataW H} {zp:List MemPlace} (hzd:R z=some (zd,zp)) (hn:n < maxLen)
 {key:Value} {kl:Lit} (hkey:keyOf P k key=some kl) :
 ∃ (v0:Value) (st:Nat) (w1:World) (dv:DataW H),(Instr.mapEntry t (.map (some b)) key).run P w=.ok (.tuple #[v0,goInt st]) w1∧w.grownBy w1 (some b)∧w1.ownsMap P k R b (n+1) (D.put kl dv)∧dv=D.atKey kl zd ∧
   ∀ (val:Value) (d:DataW H) (ps:List MemPlace),R val=some (d,ps)→∃ w2,(Instr.entryStore t (.map (some b)) (goInt st) val).run P w1=.ok () w2∧w2.ownsMap P k R b (n+1) (D.put kl d)∧w1.grownBy w2 (some b):=by
 have h0:=h
 obtain ⟨es,clock,hb,F,hs,hD⟩:=h
 obtain ⟨s1,s2,_⟩:=F.stamped
 rcases K.find w hkey es.toList F.keys with ⟨h1,h2⟩ | ⟨j,e0,h1,h2,h3⟩
 ·have hup:∀ val,(Instr.mapUpdate t (.map (some b)) key val).run P w=.ok () (setBlock w b (.map (es.push ⟨key,val,clock⟩) (clock+1))):=fun val=>by
   simp [Instr.mapUpdate,run_underlying ht,MapKept.run_getObj_map hb,K.check w false hkey,h1,MapKept.run_setObj_map _ hb,Result.andThen,setBlock]
  have hat:D.atKey kl zd=zd:=by
   obtain ⟨v,ps,hr,hv⟩:=h0.lookup K ht (hz w) hzd hkey
   rcases Maps.fit_look false K ht (hz w) hb F hkey with ⟨_,_,hat⟩ | ⟨e1,y,he1,hk1,_⟩
   ·rw [hD];exact hat zd
   ·exact absurd hk1 (h2 e1 he1)
  refine ⟨z,clock,setBlock w b (.map (es.push ⟨key,z,clock⟩) (clock+1)),zd,?_,grownBy_block w hb _,?_,hat.symm,fun val d ps hv=>?_⟩
  ·simp [Instr.mapEntry,run_underlying ht,MapKept.run_getObj_map hb,K.check w false hkey,h1,hz,MapKept.run_setObj_map _ hb,Result.andThen,setBlock]
  ·obtain ⟨w',hr,ho,_⟩:=h0.update K ht hn hkey hzd
   rw [run_inj (hup z) hr];exact ho
  ·obtain ⟨w',hr,ho,_⟩:=h0.update K ht hn hkey hv
   have hidx:(es.push ⟨key,z,clock⟩).findIdx? (fun e=>((e.born:Nat):Int)==((clock:Nat):Int))=some es.size:=by
    rw [findIdx_arr]
    exact findIdx_born (l:=(es.push ⟨key,z,clock⟩).toList) (j:=es.size) (e0:=⟨key,z,clock⟩) (by
     simp only [Array.toList_push,List.map_append,List.map_cons,List.map_nil]
     refine List.nodup_append.2 ⟨s2,by simp,fun a ha c hc e1=>?_⟩
     simp only [List.mem_singleton] at hc
     obtain ⟨x,hx,rfl⟩:=List.mem_map.1 ha
     have:=s1 x hx
     omega) (by simp)
   have hmod:(es.push ⟨key,z,clock⟩).modify es.size (fun e=>{ e with val:=val })=es.push ⟨key,val,clock⟩:=by
    apply Array.ext'
    rw [Array.toList_modify,Array.toList_push,Array.toList_push,←Array.length_toList,modify_last]
   have hw2:(setBlock w b (.map (es.push ⟨key,z,clock⟩) (clock+1))).heap[b]?=some (.map (es.push ⟨key,z,clock⟩) (clock+1)):=heap_setBlock_same hb _
   refine ⟨setBlock (setBlock w b (.map (es.push ⟨key,z,clock⟩) (clock+1))) b (.map (es.push ⟨key,val,clock⟩) (clock+1)),?_,?_,grownBy_block _ hw2 _⟩
   ·generalize setBlock w b (.map (es.push ⟨key,z,clock⟩) (clock+1))=w1 at hw2
    simp [Instr.entryStore,MapKept.run_getObj_map hw2,asInt,asIntOf,goInt,hidx,hmod,MapKept.run_setObj_map _ hw2,Result.andThen,setBlock]
   ·rw [setBlock_set w b,run_inj (hup val) hr];exact ho
 ·have hj:es[j]?=some e0:=by simpa using h2
  have hsame:es.modify j (fun e=>{ e with key:=key })=es:=by
   apply Array.ext'
   rw [Array.toList_modify,modify_eq_set _ _ _ _ h2]
   have:({ e0 with key:=key }:MapEntry)=e0:=by rw [←h3]
   rw [this]
   exact set_self _ _ _ h2
  have hup:∀ val,(Instr.mapUpdate t (.map (some b)) key val).run P w=.ok () (setBlock w b (.map (es.modify j (fun e'=>{ e' with key:=key,val:=val })) clock)):=fun val=>by
   simp [Instr.mapUpdate,run_underlying ht,MapKept.run_getObj_map hb,K.check w false hkey,h1,hj,h3,K.stays w hkey,MapKept.run_setObj_map _ hb,Result.andThen,setBlock]
  have hwb:setBlock w b (.map es clock)=w:=by
   unfold setBlock
   have:w.heap.setIfInBounds b (.map es clock)=w.heap:=by
    apply Array.ext_getElem?
    intro i
    by_cases hi:i=b
    ·subst hi
     have hlt:=(Array.getElem?_eq_some_iff.1 hb).1
     rw [Array.getElem?_setIfInBounds_self_of_lt hlt,hb]
    ·rw [Array.getElem?_setIfInBounds_ne (fun e=>hi e.symm)]
   rw [this]
  have hself:es.modify j (fun e'=>{ e' with key:=key,val:=e0.val })=es:=by
   apply Array.ext'
   rw [Array.toList_modify,modify_eq_set _ _ _ _ h2]
   have:({ e0 with key:=key,val:=e0.val }:MapEntry)=e0:=by rw [←h3]
   rw [this]
   exact set_self _ _ _ h2
  obtain ⟨dv,pv,hrv,hat⟩:∃ dv pv,R e0.val=some (dv,pv)∧dv=D.atKey kl zd:=by
   rcases Maps.fit_look false K ht (hz w) hb F hkey with ⟨_,hno,_⟩ | ⟨e1,y,he1,hk1,hrun,hRv,hat,_⟩
   ·exact absurd h3 (hno e0 (List.mem_of_getElem? h2))
   ·have he:e1=e0:=by
     have hnd:es.toList.Pairwise (fun x y=>x.key≠y.key):=((stamped_iff es clock).1 F.stamped).2.2
     by_cases heq:e1=e0
     ·exact heq
     ·obtain ⟨i1,hi1,hi1e⟩:=List.getElem_of_mem he1
      have hlt2:=(List.getElem?_eq_some_iff.1 h2).1
      have h2':es.toList[j]=e0:=(List.getElem?_eq_some_iff.1 h2).2
      have hp:=List.pairwise_iff_getElem.1 hnd
      rcases Nat.lt_trichotomy i1 j with hl | hl | hl
      ·exact absurd (by rw [hi1e,h2',hk1,h3]) (hp i1 j hi1 hlt2 hl)
      ·subst hl;rw [h2'] at hi1e;exact hi1e.symm
      ·exact absurd (by rw [hi1e,h2',hk1,h3]) (hp j i1 hlt2 hi1 hl)
    subst he
    exact ⟨y.1,y.2,hRv,by rw [hD];exact (hat zd).symm⟩
  refine ⟨e0.val,e0.born,w,dv,?_,World.grownBy.refl _ _,?_,hat,fun val d ps hv=>?_⟩
  ·conv=>rhs;rw [←hwb]
   simp [Instr.mapEntry,run_underlying ht,MapKept.run_getObj_map hb,K.check w false hkey,h1,hj,h3,K.stays w hkey,hsame,MapKept.run_setObj_map _ hb,Result.andThen,setBlock]
  ·obtain ⟨w',hr,ho,_⟩:=h0.update K ht hn hkey hrv
   have h4:=hup e0.val
   rw [hself,hwb] at h4
   rw [run_inj h4 hr];exact ho
  ·obtain ⟨w',hr,ho,_⟩:=h0.update K ht hn hkey hv
   have hidx:es.findIdx? (fun e=>((e.born:Nat):Int)==((e0.born:Nat):Int))=some j:=by
    rw [findIdx_arr]
    exact findIdx_born s2 h2
   have hmod:es.modify j (fun e=>{ e with val:=val })=es.modify j (fun e'=>{ e' with key:=key,val:=val }):=by
    apply Array.ext'
    rw [Array.toList_modify,Array.toList_modify,modify_eq_set _ _ _ _ h2,modify_eq_set _ _ _ _ h2,←h3]
   refine ⟨_,?_,(by rw [run_inj (hup val) hr];exact ho),grownBy_block w hb _⟩
   simp [Instr.entryStore,MapKept.run_getObj_map hb,asInt,asIntOf,goInt,hidx,hmod,MapKept.run_setObj_map _ hb,Result.andThen,setBlock]
end
end Go.Proofs.YthcpglnmhimepaaGreatDoor
end
section
namespace Go.Proofs.YthcpglnmhimepaaGreatDoor
open Go.RowKit
section
variable {P:Program}
theorem run_copyK (w:World) (dT sT ty elem:TypeId) (g o dLen dCap:Nat) (a:Addr) (sLen sCap:Nat) (cur:Array Value) (t:TypeId) (cs:List Value) (k:Nat)
 (hu:P.underlying dT=some (.slice elem)) (hs:(P.info? elem).map (·.size)=some k)
 (hg:w.heap[g]?=some (.cells cur t (0,0))) (hn:cs.length=Nat.min sLen dLen * k)
 (hsrc:∀ j v,cs[j]?=some v→w.cell? (a.add j)=some v) (hfit:o+cs.length≤cur.size) (h1:∀ v∈cs,v.oneCell'=true) :
 (Builtin.copy_ #[dT,sT] ty #[.slice (some ⟨g,o,none⟩) dLen dCap,.slice (some a) sLen sCap]).run P w =
  .ok (goInt (Nat.min sLen dLen)) (w.setRow g (cur.toList.take o++cs++cur.toList.drop (o+cs.length)).toArray):=by
 have hl:=run_loadCells_list (P:=P) w a cs hsrc
 have hst:=run_storeCells_at P g o t cs 0 cur w hg (by simpa using hfit) h1
 cases hq:P.info? elem with
 | none=>simp [hq] at hs
 | some i =>
   have hi:i.size=k:=by simpa [hq] using hs
   simp [Builtin.copy_,run_underlying hu,Builtin.lenOf,Builtin.firstCells,sizeOf,typeInfo,hq,hi,←hn,hl,hst]
theorem grownBy_row (w:World) (g:Nat) (cs:Array Value):w.grownBy (w.setRow g cs) (some g) :=
 ⟨rfl,rfl,rfl,by simp [World.setRow],fun k _ hk=>setRow_other w g k cs (fun e=>hk (by rw [e]))⟩
theorem wpList_copyK {w:World} {ops:Array Oper} {rest:List Oper} {o:Oper} {a:Act} {Q:Exit→Act→World→Prop} (hgd:o.guard=none) (d s:Operand) (dT sT:TypeId)
 (ho:o.op=.call { callee:=.builtin .copy,args:=#[d,s],argTypes:=#[dT,sT] }) (elem:TypeId) (hu:P.underlying dT=some (.slice elem)) (k:Nat) (hsz:(P.info? elem).map (·.size)=some k)
 (dp sp:Option Addr) (dLen dCap sLen sCap:Nat) (hd:a.eval d=.slice dp dLen dCap) (hs:a.eval s=.slice sp sLen sCap)
 (g off:Nat) (cur:List Value) (t:TypeId) (hg:w.heap[g]?=some (.cells cur.toArray t (0,0))) (cs:List Value) (m:Nat) (hm:Nat.min sLen dLen=m) (hn:cs.length=m * k)
 (hdp:dp=some ⟨g,off,none⟩) (ad:Addr) (hsp:sp=some ad) (hsrc:∀ j v,cs[j]?=some v→w.cell? (ad.add j)=some v)
 (hfit:off+cs.length≤cur.length) (h1:∀ v∈cs,v.oneCell'=true)
 (h:∀ w',Hid (w'.heap[g]?=some (.cells (splice cur off cs).toArray t (0,0)))→w.grownBy w' (some g)→wpList P ops Q rest (a.put o.dst (goInt m)) w') :
 wpList P ops Q (o::rest) a w:=by
 subst hdp hsp hm
 refine wpList_plain hgd fun K hK=>?_
 have hrun:=run_copyK w dT sT o.type elem g off dLen dCap ad sLen sCap cur.toArray t cs k hu hsz hg hn hsrc (by simpa using hfit) h1
 unfold Oper.wp
 simp only [execOp,ho,resolve,invoke,builtin,Sem.run_bind,Sem.run_pure,Result.andThen_ok,List.map_toArray,List.map_cons,List.map_nil,hd,hs,hrun]
 exact hK _ _ (h _ (show _=_ by simpa [splice] using setRow_heap w g _ _ t _ hg) (grownBy_row w g _))
theorem step_copyK {ops:Array Oper} {o:Oper} {a:Act} {w:World} {K:Act→World→Prop} {Q:Exit→Act→World→Prop} {E:Prop} (hgd:o.guard=none) (d s:Operand) (dT sT:TypeId)
 (ho:o.op=.call { callee:=.builtin .copy,args:=#[d,s],argTypes:=#[dT,sT] }) (elem:TypeId) (hu:P.underlying dT=some (.slice elem)) (k:Nat) (hsz:(P.info? elem).map (·.size)=some k)
 (dp sp:Option Addr) (dLen dCap sLen sCap:Nat) (hd:a.eval d=.slice dp dLen dCap) (hs:a.eval s=.slice sp sLen sCap)
 (g off:Nat) (cur:List Value) (t:TypeId) (hg:w.heap[g]?=some (.cells cur.toArray t (0,0))) (cs:List Value) (m:Nat) (hm:Nat.min sLen dLen=m) (hn:cs.length=m * k)
 (hdp:dp=some ⟨g,off,none⟩) (ad:Addr) (hsp:sp=some ad) (hsrc:∀ j v,cs[j]?=some v→w.cell? (ad.add j)=some v)
 (hfit:off+cs.length≤cur.length) (h1:∀ v∈cs,v.oneCell'=true)
 (h:∀ w',Hid (w'.heap[g]?=some (.cells (splice cur off cs).toArray t (0,0)))→w.grownBy w' (some g)→K (a.put o.dst (goInt m)) w') :
 if Region.wanted o (yielded ops a.tmps)=true then Oper.wp P o a w K Q else E:=by
 subst hdp hsp hm
 have hw:Region.wanted o (yielded ops a.tmps)=true:=by simp [Region.wanted,hgd]
 rw [if_pos hw]
 have hrun:=run_copyK w dT sT o.type elem g off dLen dCap ad sLen sCap cur.toArray t cs k hu hsz hg hn hsrc (by simpa using hfit) h1
 unfold Oper.wp
 simp only [execOp,ho,resolve,invoke,builtin,Sem.run_bind,Sem.run_pure,Result.andThen_ok,List.map_toArray,List.map_cons,List.map_nil,hd,hs,hrun]
 exact h _ (show _=_ by simpa [splice] using setRow_heap w g _ _ t _ hg) (grownBy_row w g _)
theorem append_types (w:World) (t tx ty e e':TypeId) (i:TypeInfo) (ht:P.underlying t=some (.slice e)) (hx:P.underlying tx=some (.slice e')) (hi:P.info? e=some i) (base b:Option Addr) (n c m c':Nat) :
 (Builtin.append_ #[t,tx] ty #[.slice base n c,.slice b m c']).run P w=(Builtin.append_ #[t,t] ty #[.slice base n c,.slice b m c']).run P w:=by
 simp [Builtin.append_,run_underlying ht,run_underlying hx,sizeOf,typeInfo,hi]
end
theorem splice_fwd {α:Type} (A X D R:List α) (_h:X.length+D.length≤R.length):splice (splice (A++R) A.length X) (A.length+X.length) D=A++(X++(D++R.drop (X.length+D.length))):=by
 have e1:splice (A++R) A.length X=A++(X++R.drop X.length):=by
  unfold splice
  rw [List.take_left,List.drop_append]
  simp
 rw [e1]
 unfold splice
 rw [←List.append_assoc A X,List.take_append_of_le_length (by simp),List.take_of_length_le (by simp),List.drop_append]
 simp [Nat.add_assoc]
 rw [List.drop_of_length_le (l:=X) (by omega),List.nil_append]
 congr 1
 omega
theorem splice_back {α:Type} (A X D R:List α) (h:X.length+D.length≤R.length):splice (splice (A++R) (A.length+X.length) D) A.length X=A++(X++(D++R.drop (X.length+D.length))):=by
 unfold splice
 have e1:(A++R).take (A.length+X.length)=A++R.take X.length:=by rw [List.take_append,List.take_of_length_le (by omega)];simp
 have e2:(A++R).drop (A.length+X.length+D.length)=R.drop (X.length+D.length):=by rw [List.drop_append];simp [Nat.add_assoc]
 have e3:(R.take X.length).length=X.length:=by simp;omega
 rw [e1,e2,List.append_assoc,List.take_left,List.drop_append]
 simp only [Nat.add_sub_cancel_left]
 rw [List.drop_of_length_le (by omega),List.nil_append,List.drop_append,e3,Nat.sub_self,List.drop_of_length_le (by omega)]
 simp
end Go.Proofs.YthcpglnmhimepaaGreatDoor
end
section
namespace Go.Proofs.YthcpglnmhimepaaGreatDoor
open Go.RowKit
theorem cellD (w:World) (q:Nat) (p:Addr):(w.drewN q).cell? p=w.cell? p:=rfl
def sameW (us vs:List ByteArray):Bool:=decide (us=vs)
theorem sameW_len {us vs:List ByteArray} (h:us.length≠vs.length):sameW us vs=false:=decide_eq_false fun e=>h (by rw [e])
theorem sameW_no {us vs:List ByteArray} {i:Nat} {x y:ByteArray} (hx:us[i]?=some x) (hy:vs[i]?=some y) (h:x≠y):sameW us vs=false :=
 decide_eq_false fun e=>h (by rw [e,hy] at hx;exact (Option.some.inj hx).symm)
theorem sameW_yes {us vs:List ByteArray} {n:Nat} (hu:us.length=n) (hv:vs.length=n) (h:∀ (j:Nat) (x y:ByteArray),j < n→us[j]?=some x→vs[j]?=some y→x=y):sameW us vs=true :=
 decide_eq_true (by
  apply List.ext_getElem?
  intro j
  by_cases hj:j < n
  ·rw [List.getElem?_eq_getElem (by omega),List.getElem?_eq_getElem (by omega)]
   rw [h j _ _ hj (List.getElem?_eq_getElem (by omega)) (List.getElem?_eq_getElem (by omega))]
  ·rw [List.getElem?_eq_none (by omega),List.getElem?_eq_none (by omega)])
set_option maxRecDepth 100000 in
set_option maxHeartbeats 2000000 in
theorem sameWords_any (v u:Value) (vs us:List ByteArray) (w:World) (h:StrsV w v vs) (h':StrsV w u us) :
 Calls Tryz.prog 114 #[v,u] w fun e w'=>e=.returned (.bool (sameW vs us))∧∃ q,w'=w.drewN q:=by
 obtain ⟨a,c,rfl,_,hm,hc⟩:=h
 obtain ⟨a',c',rfl,_,hm',hc'⟩:=h'
 obtain ⟨n,hn⟩:∃ n,vs.length=n:=⟨_,rfl⟩
 obtain ⟨n',hn'⟩:∃ n,us.length=n:=⟨_,rfl⟩
 obtain ⟨r,hr⟩:∃ r,sameW vs us=r:=⟨_,rfl⟩
 rw [hn] at hm ⊢
 rw [hn'] at hm' ⊢
 rw [hr]
 have H:=Lib.hid hc
 have H':=Lib.hid hc'
 have HN:=Lib.hid hn
 have HN':=Lib.hid hn'
 have HR:=Lib.hid hr
 unfold maxLen at hm hm'
 clear hc hc' hn hn' hr
 by_cases hne:n=n'
 ·subst hne
  have hnn:((n:Int) != (n:Int))=false:=by simp
  go_enter Tryz.func114,Tryz.ntmps114
  go_wp2
  go_loopg [5] n (fun kx vi wr=>∃ i q:Nat,vi=.int .i64 (i:Int)∧i≤n∧n - i≤kx∧Hid (wr=w.drewN q)∧Hid (∀ (j:Nat) (x y:ByteArray),j < i→vs[j]?=some x→us[j]?=some y→x=y))
  case atStart=>exact ⟨0,0,rfl,Nat.zero_le _,by omega,rfl,Lib.hid fun j x y hj=>absurd hj (Nat.not_lt_zero _)⟩
  case round =>
   obtain ⟨i,q,rfl,hin,hkx,HW,HA⟩:=hrel
   by_cases hlt:i < n
   ·obtain ⟨x,hx⟩:∃ y,vs[i]?=some y:=⟨_,List.getElem?_eq_getElem (by rw [HN.out];exact hlt)⟩
    obtain ⟨y,hy⟩:∃ y,us[i]?=some y:=⟨_,List.getElem?_eq_getElem (by rw [HN'.out];exact hlt)⟩
    obtain ⟨b1,o1,rfl,d1⟩:=H.out i _ hx
    obtain ⟨b2,o2,rfl,d2⟩:=H'.out i _ hy
    have HX:=Lib.hid hx
    have HY:=Lib.hid hy
    clear hx hy
    rw [←cellD w q,←HW.out] at d1 d2
    have hltz:(i:Int) < (n:Int):=by omega
    cases hxy:(x.toList==y.toList) with
    | true =>
      have HXE:=Lib.hid ((Lib.bytes_beq_iff x y).1 hxy)
      go_wp2_with fail
      go_big_quiet (fail)
      clear d1 d2 hxy
      go_wp2
      go_roundg (n - (i+1))
      case measure=>omega
      case rel=>exact ⟨i+1,q+nq,by first | rfl | go_num,by omega,Nat.le_refl _,Lib.hid (by rw [HW.out,World.drewN_drewN]),Lib.hid fun j z t hj hz ht=>by
       rcases Nat.lt_or_ge j i with h | h
       ·exact HA.out j z t h hz ht
       ·obtain rfl:j=i:=by omega
        rw [HX.out] at hz;rw [HY.out] at ht
        cases hz;cases ht;exact HXE.out⟩
    | false =>
      have HXE:=Lib.hid ((Lib.bytes_beq_false_iff x y).1 hxy)
      go_wp2_with fail
      go_big_quiet (fail)
      clear d1 d2 hxy
      go_wp2
      go_ret
      exact ⟨ret_bool (by rw [←HR.out,sameW_no HX.out HY.out HXE.out]),q+nq,by rw [HW.out,World.drewN_drewN]⟩
   ·have hltz:¬ (i:Int) < (n:Int):=by omega
    go_wp2
    go_ret
    exact ⟨ret_bool (by rw [←HR.out,sameW_yes HN.out HN'.out fun j x y hj=>HA.out j x y (by omega)]),q,HW.out⟩
 ·have hnn:((n:Int) != (n':Int))=true:=by simp;omega
  have HNE:=Lib.hid hne
  clear hne
  go_enter Tryz.func114,Tryz.ntmps114
  go_wp2
  go_ret
  exact ⟨ret_bool (by rw [←HR.out,sameW_len (by rw [HN.out,HN'.out];exact HNE.out)]),0,rfl⟩
set_option maxRecDepth 100000 in
set_option maxHeartbeats 2000000 in
theorem equal_any (v u:Value) (vs us:List ByteArray) (w:World) (h:StrsV w v vs) (h':StrsV w u us) :
 Calls Tryz.prog 138 #[v,u] w fun e w'=>e=.returned (.bool (sameW vs us))∧∃ q,w'=w.drewN q:=by
 obtain ⟨a,c,rfl,_,hm,hc⟩:=h
 obtain ⟨a',c',rfl,_,hm',hc'⟩:=h'
 obtain ⟨n,hn⟩:∃ n,vs.length=n:=⟨_,rfl⟩
 obtain ⟨n',hn'⟩:∃ n,us.length=n:=⟨_,rfl⟩
 obtain ⟨r,hr⟩:∃ r,sameW vs us=r:=⟨_,rfl⟩
 rw [hn] at hm ⊢
 rw [hn'] at hm' ⊢
 rw [hr]
 have H:=Lib.hid hc
 have H':=Lib.hid hc'
 have HN:=Lib.hid hn
 have HN':=Lib.hid hn'
 have HR:=Lib.hid hr
 unfold maxLen at hm hm'
 clear hc hc' hn hn' hr
 by_cases hne:n=n'
 ·subst hne
  have hnn:((n:Int) != (n:Int))=false:=by simp
  go_enter Tryz.func138,Tryz.ntmps138
  go_wp2
  go_loopg [13] n (fun kx vi wr=>∃ i q:Nat,vi=.int .i64 (i:Int)∧i≤n∧n - i≤kx∧Hid (wr=w.drewN q)∧Hid (∀ (j:Nat) (x y:ByteArray),j < i→vs[j]?=some x→us[j]?=some y→x=y))
  case atStart=>exact ⟨0,0,rfl,Nat.zero_le _,by omega,rfl,Lib.hid fun j x y hj=>absurd hj (Nat.not_lt_zero _)⟩
  case round =>
   obtain ⟨i,q,rfl,hin,hkx,HW,HA⟩:=hrel
   by_cases hlt:i < n
   ·obtain ⟨x,hx⟩:∃ y,vs[i]?=some y:=⟨_,List.getElem?_eq_getElem (by rw [HN.out];exact hlt)⟩
    obtain ⟨y,hy⟩:∃ y,us[i]?=some y:=⟨_,List.getElem?_eq_getElem (by rw [HN'.out];exact hlt)⟩
    obtain ⟨b1,o1,rfl,d1⟩:=H.out i _ hx
    obtain ⟨b2,o2,rfl,d2⟩:=H'.out i _ hy
    have HX:=Lib.hid hx
    have HY:=Lib.hid hy
    clear hx hy
    rw [←cellD w q,←HW.out] at d1 d2
    have hltz:(i:Int) < (n:Int):=by omega
    cases hxy:(x.toList==y.toList) with
    | true =>
      have HXE:=Lib.hid ((Lib.bytes_beq_iff x y).1 hxy)
      go_wp2_with fail
      go_big_quiet (fail)
      clear d1 d2 hxy
      go_wp2
      go_roundg (n - (i+1))
      case measure=>omega
      case rel=>exact ⟨i+1,q+nq,by first | rfl | go_num,by omega,Nat.le_refl _,Lib.hid (by rw [HW.out,World.drewN_drewN]),Lib.hid fun j z t hj hz ht=>by
       rcases Nat.lt_or_ge j i with h | h
       ·exact HA.out j z t h hz ht
       ·obtain rfl:j=i:=by omega
        rw [HX.out] at hz;rw [HY.out] at ht
        cases hz;cases ht;exact HXE.out⟩
    | false =>
      have HXE:=Lib.hid ((Lib.bytes_beq_false_iff x y).1 hxy)
      go_wp2_with fail
      go_big_quiet (fail)
      clear d1 d2 hxy
      go_wp2
      go_ret
      exact ⟨ret_bool (by rw [←HR.out,sameW_no HX.out HY.out HXE.out]),q+nq,by rw [HW.out,World.drewN_drewN]⟩
   ·have hltz:¬ (i:Int) < (n:Int):=by omega
    go_wp2
    go_ret
    exact ⟨ret_bool (by rw [←HR.out,sameW_yes HN.out HN'.out fun j x y hj=>HA.out j x y (by omega)]),q,HW.out⟩
 ·have hnn:((n:Int) != (n':Int))=true:=by simp;omega
  have HNE:=Lib.hid hne
  clear hne
  go_enter Tryz.func138,Tryz.ntmps138
  go_wp2
  go_ret
  exact ⟨ret_bool (by rw [←HR.out,sameW_len (by rw [HN.out,HN'.out];exact HNE.out)]),0,rfl⟩
end Go.Proofs.YthcpglnmhimepaaGreatDoor
end
