/- SortedG Sorted FlowPlain UnitPlain FlowSearch -/
import Derived.Deep.LoopGhost
import Derived.Handy
import Derived.Lib.Bytealg
import Derived.Lib.Walk
import Derived.LoopTactic
import Derived.Test.YtfhhihamndbcnaaGreatDoorR04
import Derived.Test.YtfhhihamndbcnaaGreatDoorR05
section
namespace Go.Proofs.YtfhhihamndbcnaaGreatDoor.G
open Go.RowKit
class KeyO (κ:Type) where
 lt:κ→κ→Bool
 trans:∀ {x y z:κ},lt x y=true→lt y z=true→lt x z=true
 irr:∀ x:κ,lt x x=false
 total:∀ {x y:κ},lt x y=false→x≠y→lt y x=true
instance : KeyO ByteArray:=⟨ltS,ltS_trans,ltS_irr,ltS_total⟩
def ltP (x y:ByteArray × ByteArray):Bool:=ltS x.1 y.1 || (decide (x.1=y.1) && ltS x.2 y.2)
theorem ltP_iff (x y:ByteArray × ByteArray):ltP x y=true ↔ ltS x.1 y.1=true∨(x.1=y.1∧ltS x.2 y.2=true):=by simp [ltP]
instance : KeyO (ByteArray × ByteArray) where
 lt:=ltP
 trans:=by
  intro x y z h1 h2
  rw [ltP_iff] at *
  rcases h1 with h1 | ⟨e1,h1⟩ <;> rcases h2 with h2 | ⟨e2,h2⟩
  ·exact .inl (ltS_trans h1 h2)
  ·exact .inl (by rw [←e2];exact h1)
  ·exact .inl (by rw [e1];exact h2)
  ·exact .inr ⟨e1.trans e2,ltS_trans h1 h2⟩
 irr:=by intro x;simp [ltP,ltS_irr]
 total:=by
  intro x y h hne
  rw [ltP_iff]
  simp only [ltP,Bool.or_eq_false_iff,Bool.and_eq_false_iff,decide_eq_false_iff_not] at h
  by_cases e:x.1=y.1
  ·refine .inr ⟨e.symm,ltS_total ?_ (fun e2=>hne (Prod.ext e e2))⟩
   rcases h.2 with h2 | h2
   ·exact absurd e h2
   ·exact h2
  ·exact .inl (ltS_total h.1 e)
section
variable {α κ:Type} [KeyO κ] (key:α→κ)
def placeK:List α→κ→Nat
 | [],_=>0
 | a::L,c=>if KeyO.lt (key a) c=true then placeK L c+1 else 0
def insK (L:List α) (x:α):List α:=L.take (placeK key L (key x))++x::L.drop (placeK key L (key x))
def riseK:List α→Bool
 | a::b::L=>KeyO.lt (key a) (key b) && riseK (b::L)
 | _=>true
variable {key}
theorem placeK_le (L:List α) (c:κ):placeK key L c≤L.length:=by
 induction L with
 | nil=>exact Nat.le_refl _
 | cons a L ih=>simp only [placeK];split <;> simp;omega
theorem insK_length (L:List α) (x:α):(insK key L x).length=L.length+1:=by
 have:=placeK_le (key:=key) L (key x)
 simp [insK];omega
theorem insK_cons (a x:α) (L:List α):insK key (a::L) x=if KeyO.lt (key a) (key x)=true then a::insK key L x else x::a::L:=by
 unfold insK
 simp only [placeK]
 split <;> simp
theorem mem_ins {L:List α} {x y:α}:y∈insK key L x ↔ y=x∨y∈L:=by
 unfold insK
 rw [List.mem_append,List.mem_cons]
 constructor
 ·rintro (h | h | h)
  ·exact .inr (List.mem_of_mem_take h)
  ·exact .inl h
  ·exact .inr (List.mem_of_mem_drop h)
 ·rintro (h | h)
  ·exact .inr (.inl h)
  ·rw [←List.take_append_drop (placeK key L (key x)) L,List.mem_append] at h
   rcases h with h | h
   ·exact .inl h
   ·exact .inr (.inr h)
theorem filter_ins_no {p:α→Bool} (L:List α) {x:α} (h:p x=false):(insK key L x).filter p=L.filter p:=by
 unfold insK
 rw [List.filter_append,List.filter_cons,h]
 simp only [Bool.false_eq_true,if_false]
 rw [←List.filter_append,List.take_append_drop]
theorem filter_ins_length {p:α→Bool} (L:List α) {x:α} (h:p x=true):((insK key L x).filter p).length=(L.filter p).length+1:=by
 have e:(L.filter p).length=((L.take (placeK key L (key x))).filter p).length+((L.drop (placeK key L (key x))).filter p).length:=by
  rw [←List.length_append,←List.filter_append,List.take_append_drop]
 unfold insK
 rw [List.filter_append,List.filter_cons,h]
 simp only [if_true,List.length_append,List.length_cons]
 omega
theorem riseK_tail {a:α} {L:List α} (h:riseK key (a::L)=true):riseK key L=true:=by
 cases L with
 | nil=>rfl
 | cons b L=>simp only [riseK,Bool.and_eq_true] at h;exact h.2
theorem riseK_head {a:α} {L:List α} (h:riseK key (a::L)=true):∀ y∈L,KeyO.lt (key a) (key y)=true:=by
 induction L generalizing a with
 | nil=>intro y hy;cases hy
 | cons b L ih =>
   simp only [riseK,Bool.and_eq_true] at h
   intro y hy
   rcases List.mem_cons.1 hy with rfl | hy
   ·exact h.1
   ·exact KeyO.trans h.1 (ih h.2 y hy)
theorem riseK_cons {a:α} {L:List α} (h1:∀ y∈L,KeyO.lt (key a) (key y)=true) (h2:riseK key L=true):riseK key (a::L)=true:=by
 cases L with
 | nil=>rfl
 | cons b L=>simp only [riseK,Bool.and_eq_true];exact ⟨h1 b List.mem_cons_self,h2⟩
theorem riseK_at {L:List α} (h:riseK key L=true) {i j:Nat} {x y:α} (hij:i < j) (hx:L[i]?=some x) (hy:L[j]?=some y):KeyO.lt (key x) (key y)=true:=by
 induction L generalizing i j with
 | nil=>simp at hx
 | cons a L ih =>
   cases j with
   | zero=>omega
   | succ j =>
     cases i with
     | zero =>
       simp at hx hy
       subst hx
       exact riseK_head h y (List.mem_of_getElem? hy)
     | succ i =>
       simp at hx hy
       exact ih (riseK_tail h) (by omega) hx hy
theorem riseK_uniq {L:List α} (h:riseK key L=true) {x y:α} (hx:x∈L) (hy:y∈L) (e:key x=key y):x=y:=by
 obtain ⟨i,hi,hix⟩:=List.getElem_of_mem hx
 obtain ⟨j,hj,hjy⟩:=List.getElem_of_mem hy
 have h1:L[i]?=some x:=by rw [List.getElem?_eq_getElem hi,hix]
 have h2:L[j]?=some y:=by rw [List.getElem?_eq_getElem hj,hjy]
 rcases Nat.lt_trichotomy i j with hl | hl | hl
 ·have:=riseK_at h hl h1 h2;rw [e,KeyO.irr] at this;cases this
 ·subst hl;rw [h1] at h2;exact Option.some.inj h2
 ·have:=riseK_at h hl h2 h1;rw [e,KeyO.irr] at this;cases this
theorem placeK_at {L:List α} {c:κ} {i:Nat} (hi:i≤L.length) (hb:∀ (j:Nat) (y:α),j < i→L[j]?=some y→KeyO.lt (key y) c=true) (hx:∀ y,L[i]?=some y→KeyO.lt (key y) c=false):placeK key L c=i:=by
 induction L generalizing i with
 | nil=>simp at hi;subst hi;rfl
 | cons a L ih =>
   cases i with
   | zero=>simp only [placeK,hx a rfl,Bool.false_eq_true,if_false]
   | succ i =>
     simp only [placeK,hb 0 a (by omega) rfl,if_true]
     rw [ih (i:=i) (by simpa using hi) (fun j y hj hy=>hb (j+1) y (by omega) (by simpa using hy)) (fun y hy=>hx y (by simpa using hy))]
theorem placeK_below {L:List α} {c:κ}:∀ (j:Nat) (y:α),j < placeK key L c→L[j]?=some y→KeyO.lt (key y) c=true:=by
 induction L with
 | nil=>intro j y _ h;simp at h
 | cons a L ih =>
   intro j y hj hy
   simp only [placeK] at hj
   split at hj
   ·cases j with
    | zero=>simp at hy;subst hy;assumption
    | succ j=>exact ih j y (by omega) (by simpa using hy)
   ·omega
theorem placeK_there {L:List α} {c:κ} {y:α} (h:L[placeK key L c]?=some y):KeyO.lt (key y) c=false:=by
 induction L with
 | nil=>simp at h
 | cons a L ih =>
   simp only [placeK] at h
   split at h
   ·exact ih (by simpa using h)
   ·simp at h;subst h;simp_all
theorem ins_perm (L:List α) (x:α):(insK key L x).Perm (x::L):=by
 unfold insK
 refine (List.perm_middle).trans ?_
 rw [List.take_append_drop]
def insR (key:α→κ):List α→α→List α
 | [],x=>[x]
 | a::L,x=>if KeyO.lt (key x) (key a)=true then x::a::L else a::insR key L x
end
section
variable {α κ:Type} [DecidableEq κ] (key:α→κ)
def findK:List α→κ→Option α
 | [],_=>none
 | a::L,c=>if key a=c then some a else findK L c
variable {key}
theorem findK_mem {L:List α} {c:κ} {x:α} (h:findK key L c=some x):key x=c∧x∈L:=by
 induction L with
 | nil=>cases h
 | cons a L ih =>
   simp only [findK] at h
   split at h
   ·cases h;exact ⟨by assumption,List.mem_cons_self⟩
   ·exact ⟨(ih h).1,List.mem_cons_of_mem _ (ih h).2⟩
theorem findK_no {L:List α} {c:κ} (h:findK key L c=none):∀ x∈L,key x≠c:=by
 induction L with
 | nil=>intro x hx;cases hx
 | cons a L ih =>
   simp only [findK] at h
   split at h
   ·cases h
   ·intro x hx
    rcases List.mem_cons.1 hx with rfl | hx
    ·assumption
    ·exact ih h x hx
theorem findK_none {L:List α} {c:κ} (h:∀ x∈L,key x≠c):findK key L c=none:=by
 cases hf:findK key L c with
 | none=>rfl
 | some x=>exact absurd (findK_mem hf).1 (h x (findK_mem hf).2)
end
section
variable {α κ:Type} [DecidableEq κ] [KeyO κ] {key:α→κ}
theorem findK_ins (L:List α) (x:α) (c:κ) (h:findK key L (key x)=none):findK key (insK key L x) c=if key x=c then some x else findK key L c:=by
 induction L with
 | nil=>simp [insK,placeK,findK]
 | cons a L ih =>
   simp only [findK] at h
   split at h
   ·cases h
   ·rename_i hne
    rw [insK_cons]
    split
    ·simp only [findK]
     rw [ih h]
     by_cases h1:key a=c
     ·have:key x≠c:=fun e=>hne (by rw [h1,e])
      simp [h1,this]
     ·simp [h1]
    ·simp [findK]
theorem riseK_ins (L:List α) (x:α) (hr:riseK key L=true) (h:findK key L (key x)=none):riseK key (insK key L x)=true:=by
 induction L with
 | nil=>rfl
 | cons a L ih =>
   have hne:key a≠key x:=findK_no h a List.mem_cons_self
   rw [insK_cons]
   split
   ·rename_i hg
    refine riseK_cons (fun y hy=>?_) (ih (riseK_tail hr) (findK_none fun y hy=>findK_no h y (List.mem_cons_of_mem _ hy)))
    rcases mem_ins.1 hy with rfl | hy
    ·exact hg
    ·exact riseK_head hr y hy
   ·rename_i hg
    have hlt:KeyO.lt (key x) (key a)=true:=KeyO.total (by simpa using hg) hne
    simp only [riseK,Bool.and_eq_true]
    exact ⟨hlt,hr⟩
theorem findK_of_mem {L:List α} (h:riseK key L=true) {x:α} (hx:x∈L):findK key L (key x)=some x:=by
 cases hf:findK key L (key x) with
 | none=>exact absurd rfl (findK_no hf x hx)
 | some y=>rw [riseK_uniq h (findK_mem hf).2 hx (findK_mem hf).1]
def isK (key:α→κ) (L:List α) (c:κ):Bool:=match L[placeK key L c]? with
 | some x=>decide (key x=c)
 | none=>false
theorem isK_find {L:List α} (h:riseK key L=true) (c:κ):isK key L c=(findK key L c).isSome∧(isK key L c=true→L[placeK key L c]?=findK key L c):=by
 unfold isK
 cases hp:L[placeK key L c]? with
 | none =>
   have hlen:L.length≤placeK key L c:=List.getElem?_eq_none_iff.1 hp
   have hf:findK key L c=none:=findK_none fun x hx e=>by
    obtain ⟨i,hi,hix⟩:=List.getElem_of_mem hx
    have:=placeK_below (key:=key) (L:=L) (c:=c) i x (by omega) (by rw [List.getElem?_eq_getElem hi,hix])
    rw [e,KeyO.irr] at this;cases this
   rw [hf];exact ⟨rfl,fun h=>by cases h⟩
 | some x =>
   simp only
   by_cases e:key x=c
   ·have hm:=List.mem_of_getElem? hp
    have hf:=findK_of_mem h hm
    rw [e] at hf
    rw [hf];exact ⟨by simp [e],fun _=>rfl⟩
   ·have hf:findK key L c=none:=findK_none fun y hy ey=>by
     obtain ⟨i,hi,hiy⟩:=List.getElem_of_mem hy
     have h1:L[i]?=some y:=by rw [List.getElem?_eq_getElem hi,hiy]
     rcases Nat.lt_trichotomy i (placeK key L c) with hl | hl | hl
     ·have:=placeK_below (key:=key) (L:=L) (c:=c) i y hl h1;rw [ey,KeyO.irr] at this;cases this
     ·rw [hl,hp] at h1;cases h1;exact e ey
     ·have h2:=riseK_at h hl hp h1
      rw [ey,placeK_there hp] at h2;cases h2
    rw [hf];exact ⟨by simp [e],fun h=>by simp [e] at h⟩
theorem insR_eq {L:List α} {x:α} (hr:riseK key L=true) (h:findK key L (key x)=none):insR key L x=insK key L x:=by
 induction L with
 | nil=>rfl
 | cons a L ih =>
   have hne:key a≠key x:=findK_no h a List.mem_cons_self
   rw [insK_cons]
   simp only [insR]
   by_cases hl:KeyO.lt (key x) (key a)=true
   ·have:KeyO.lt (key a) (key x)=false:=by
     cases h2:KeyO.lt (key a) (key x) with
     | false=>rfl
     | true=>have:=KeyO.trans hl h2;rw [KeyO.irr] at this;cases this
    rw [if_pos hl,if_neg (by rw [this];simp)]
   ·have h2:=KeyO.total (by simpa using hl) (fun e=>hne e.symm)
    rw [if_neg hl,if_pos h2,ih (riseK_tail hr) (findK_none fun y hy=>findK_no h y (List.mem_cons_of_mem _ hy))]
end
end Go.Proofs.YtfhhihamndbcnaaGreatDoor.G
end
section
namespace Go.Proofs.YtfhhihamndbcnaaGreatDoor
open Go.RowKit
section
variable {α:Type} (key:α→ByteArray)
def findK:List α→ByteArray→Option α
 | [],_=>none
 | a::L,c=>if key a=c then some a else findK L c
def placeK:List α→ByteArray→Nat
 | [],_=>0
 | a::L,c=>if ltS (key a) c=true then placeK L c+1 else 0
def insK (L:List α) (x:α):List α:=L.take (placeK key L (key x))++x::L.drop (placeK key L (key x))
def riseK:List α→Bool
 | a::b::L=>ltS (key a) (key b) && riseK (b::L)
 | _=>true
variable {key}
theorem placeK_le (L:List α) (c:ByteArray):placeK key L c≤L.length:=by
 induction L with
 | nil=>exact Nat.le_refl _
 | cons a L ih=>simp only [placeK];split <;> simp;omega
theorem insK_length (L:List α) (x:α):(insK key L x).length=L.length+1:=by
 have:=placeK_le (key:=key) L (key x)
 simp [insK];omega
theorem insK_cons (a x:α) (L:List α):insK key (a::L) x=if ltS (key a) (key x)=true then a::insK key L x else x::a::L:=by
 unfold insK
 simp only [placeK]
 split <;> simp
theorem mem_ins {L:List α} {x y:α}:y∈insK key L x ↔ y=x∨y∈L:=by
 unfold insK
 rw [List.mem_append,List.mem_cons]
 constructor
 ·rintro (h | h | h)
  ·exact .inr (List.mem_of_mem_take h)
  ·exact .inl h
  ·exact .inr (List.mem_of_mem_drop h)
 ·rintro (h | h)
  ·exact .inr (.inl h)
  ·rw [←List.take_append_drop (placeK key L (key x)) L,List.mem_append] at h
   rcases h with h | h
   ·exact .inl h
   ·exact .inr (.inr h)
theorem filter_ins_no {p:α→Bool} (L:List α) {x:α} (h:p x=false):(insK key L x).filter p=L.filter p:=by
 unfold insK
 rw [List.filter_append,List.filter_cons,h]
 simp only [Bool.false_eq_true,if_false]
 rw [←List.filter_append,List.take_append_drop]
theorem filter_ins_length {p:α→Bool} (L:List α) {x:α} (h:p x=true):((insK key L x).filter p).length=(L.filter p).length+1:=by
 have e:(L.filter p).length=((L.take (placeK key L (key x))).filter p).length+((L.drop (placeK key L (key x))).filter p).length:=by
  rw [←List.length_append,←List.filter_append,List.take_append_drop]
 unfold insK
 rw [List.filter_append,List.filter_cons,h]
 simp only [if_true,List.length_append,List.length_cons]
 omega
theorem findK_mem {L:List α} {c:ByteArray} {x:α} (h:findK key L c=some x):key x=c∧x∈L:=by
 induction L with
 | nil=>cases h
 | cons a L ih =>
   simp only [findK] at h
   split at h
   ·cases h;exact ⟨by assumption,List.mem_cons_self⟩
   ·exact ⟨(ih h).1,List.mem_cons_of_mem _ (ih h).2⟩
theorem findK_no {L:List α} {c:ByteArray} (h:findK key L c=none):∀ x∈L,key x≠c:=by
 induction L with
 | nil=>intro x hx;cases hx
 | cons a L ih =>
   simp only [findK] at h
   split at h
   ·cases h
   ·intro x hx
    rcases List.mem_cons.1 hx with rfl | hx
    ·assumption
    ·exact ih h x hx
theorem findK_none {L:List α} {c:ByteArray} (h:∀ x∈L,key x≠c):findK key L c=none:=by
 cases hf:findK key L c with
 | none=>rfl
 | some x=>exact absurd (findK_mem hf).1 (h x (findK_mem hf).2)
theorem findK_ins (L:List α) (x:α) (c:ByteArray) (h:findK key L (key x)=none):findK key (insK key L x) c=if key x=c then some x else findK key L c:=by
 induction L with
 | nil=>simp [insK,placeK,findK]
 | cons a L ih =>
   simp only [findK] at h
   split at h
   ·cases h
   ·rename_i hne
    rw [insK_cons]
    split
    ·simp only [findK]
     rw [ih h]
     by_cases h1:key a=c
     ·have:key x≠c:=fun e=>hne (by rw [h1,e])
      simp [h1,this]
     ·simp [h1]
    ·simp [findK]
theorem riseK_tail {a:α} {L:List α} (h:riseK key (a::L)=true):riseK key L=true:=by
 cases L with
 | nil=>rfl
 | cons b L=>simp only [riseK,Bool.and_eq_true] at h;exact h.2
theorem riseK_head {a:α} {L:List α} (h:riseK key (a::L)=true):∀ y∈L,ltS (key a) (key y)=true:=by
 induction L generalizing a with
 | nil=>intro y hy;cases hy
 | cons b L ih =>
   simp only [riseK,Bool.and_eq_true] at h
   intro y hy
   rcases List.mem_cons.1 hy with rfl | hy
   ·exact h.1
   ·exact ltS_trans h.1 (ih h.2 y hy)
theorem riseK_cons {a:α} {L:List α} (h1:∀ y∈L,ltS (key a) (key y)=true) (h2:riseK key L=true):riseK key (a::L)=true:=by
 cases L with
 | nil=>rfl
 | cons b L=>simp only [riseK,Bool.and_eq_true];exact ⟨h1 b List.mem_cons_self,h2⟩
theorem riseK_ins (L:List α) (x:α) (hr:riseK key L=true) (h:findK key L (key x)=none):riseK key (insK key L x)=true:=by
 induction L with
 | nil=>rfl
 | cons a L ih =>
   have hne:key a≠key x:=findK_no h a List.mem_cons_self
   rw [insK_cons]
   split
   ·rename_i hg
    refine riseK_cons (fun y hy=>?_) (ih (riseK_tail hr) (findK_none fun y hy=>findK_no h y (List.mem_cons_of_mem _ hy)))
    rcases mem_ins.1 hy with rfl | hy
    ·exact hg
    ·exact riseK_head hr y hy
   ·rename_i hg
    have hlt:ltS (key x) (key a)=true:=ltS_total (by simpa using hg) hne
    simp only [riseK,Bool.and_eq_true]
    exact ⟨hlt,hr⟩
theorem riseK_at {L:List α} (h:riseK key L=true) {i j:Nat} {x y:α} (hij:i < j) (hx:L[i]?=some x) (hy:L[j]?=some y):ltS (key x) (key y)=true:=by
 induction L generalizing i j with
 | nil=>simp at hx
 | cons a L ih =>
   cases j with
   | zero=>omega
   | succ j =>
     cases i with
     | zero =>
       simp at hx hy
       subst hx
       exact riseK_head h y (List.mem_of_getElem? hy)
     | succ i =>
       simp at hx hy
       exact ih (riseK_tail h) (by omega) hx hy
theorem riseK_uniq {L:List α} (h:riseK key L=true) {x y:α} (hx:x∈L) (hy:y∈L) (e:key x=key y):x=y:=by
 obtain ⟨i,hi,hix⟩:=List.getElem_of_mem hx
 obtain ⟨j,hj,hjy⟩:=List.getElem_of_mem hy
 have h1:L[i]?=some x:=by rw [List.getElem?_eq_getElem hi,hix]
 have h2:L[j]?=some y:=by rw [List.getElem?_eq_getElem hj,hjy]
 rcases Nat.lt_trichotomy i j with hl | hl | hl
 ·have:=riseK_at h hl h1 h2;rw [e,ltS_irr] at this;cases this
 ·subst hl;rw [h1] at h2;exact Option.some.inj h2
 ·have:=riseK_at h hl h2 h1;rw [e,ltS_irr] at this;cases this
theorem findK_of_mem {L:List α} (h:riseK key L=true) {x:α} (hx:x∈L):findK key L (key x)=some x:=by
 cases hf:findK key L (key x) with
 | none=>exact absurd rfl (findK_no hf x hx)
 | some y=>rw [riseK_uniq h (findK_mem hf).2 hx (findK_mem hf).1]
theorem placeK_at {L:List α} {c:ByteArray} {i:Nat} (hi:i≤L.length) (hb:∀ (j:Nat) (y:α),j < i→L[j]?=some y→ltS (key y) c=true) (hx:∀ y,L[i]?=some y→ltS (key y) c=false):placeK key L c=i:=by
 induction L generalizing i with
 | nil=>simp at hi;subst hi;rfl
 | cons a L ih =>
   cases i with
   | zero=>simp only [placeK,hx a rfl,Bool.false_eq_true,if_false]
   | succ i =>
     simp only [placeK,hb 0 a (by omega) rfl,if_true]
     rw [ih (i:=i) (by simpa using hi) (fun j y hj hy=>hb (j+1) y (by omega) (by simpa using hy)) (fun y hy=>hx y (by simpa using hy))]
theorem placeK_below {L:List α} {c:ByteArray}:∀ (j:Nat) (y:α),j < placeK key L c→L[j]?=some y→ltS (key y) c=true:=by
 induction L with
 | nil=>intro j y _ h;simp at h
 | cons a L ih =>
   intro j y hj hy
   simp only [placeK] at hj
   split at hj
   ·cases j with
    | zero=>simp at hy;subst hy;assumption
    | succ j=>exact ih j y (by omega) (by simpa using hy)
   ·omega
theorem placeK_there {L:List α} {c:ByteArray} {y:α} (h:L[placeK key L c]?=some y):ltS (key y) c=false:=by
 induction L with
 | nil=>simp at h
 | cons a L ih =>
   simp only [placeK] at h
   split at h
   ·exact ih (by simpa using h)
   ·simp at h;subst h;simp_all
def isK (key:α→ByteArray) (L:List α) (c:ByteArray):Bool:=match L[placeK key L c]? with
 | some x=>decide (key x=c)
 | none=>false
theorem isK_find {L:List α} (h:riseK key L=true) (c:ByteArray):isK key L c=(findK key L c).isSome∧(isK key L c=true→L[placeK key L c]?=findK key L c):=by
 unfold isK
 cases hp:L[placeK key L c]? with
 | none =>
   have hlen:L.length≤placeK key L c:=List.getElem?_eq_none_iff.1 hp
   have hf:findK key L c=none:=findK_none fun x hx e=>by
    obtain ⟨i,hi,hix⟩:=List.getElem_of_mem hx
    have:=placeK_below (key:=key) (L:=L) (c:=c) i x (by omega) (by rw [List.getElem?_eq_getElem hi,hix])
    rw [e,ltS_irr] at this;cases this
   rw [hf];exact ⟨rfl,fun h=>by cases h⟩
 | some x =>
   simp only
   by_cases e:key x=c
   ·have hm:=List.mem_of_getElem? hp
    have hf:=findK_of_mem h hm
    rw [e] at hf
    rw [hf];exact ⟨by simp [e],fun _=>rfl⟩
   ·have hf:findK key L c=none:=findK_none fun y hy ey=>by
     obtain ⟨i,hi,hiy⟩:=List.getElem_of_mem hy
     have h1:L[i]?=some y:=by rw [List.getElem?_eq_getElem hi,hiy]
     rcases Nat.lt_trichotomy i (placeK key L c) with hl | hl | hl
     ·have:=placeK_below (key:=key) (L:=L) (c:=c) i y hl h1;rw [ey,ltS_irr] at this;cases this
     ·rw [hl,hp] at h1;cases h1;exact e ey
     ·have h2:=riseK_at h hl hp h1
      rw [ey,placeK_there hp] at h2;cases h2
    rw [hf];exact ⟨by simp [e],fun h=>by simp [e] at h⟩
end
end Go.Proofs.YtfhhihamndbcnaaGreatDoor
end
section
namespace Go.Proofs.YtfhhihamndbcnaaGreatDoor.Fl
open Go.RowKit
structure Flow where
 code:ByteArray
 kind:Int
theorem Flow.ext' {a b:Flow} (h0:a.code=b.code) (h1:a.kind=b.kind):a=b:=by
 cases a;cases b;simp_all
instance : DecidableEq Flow:=fun a b =>
 if h:a.code=b.code∧a.kind=b.kind then isTrue (Flow.ext' h.1 h.2)
 else isFalse fun e=>h (by subst e;exact ⟨rfl,rfl⟩)
def zeroF:Flow:=⟨⟨#[]⟩,0⟩
abbrev encF:Enc Flow:=⟨fun f=>[.string f.code,.int .i64 f.kind],2,fun _=>rfl,by decide,fun _ v hv=>by simp at hv;rcases hv with rfl | rfl <;> rfl⟩
abbrev FlowsV (w:World) (v:Value) (L:List Flow):Prop:=ElsV encF w v L
abbrev aggL (f:Flow):Value:=.agg #[.string f.code,.int .i64 f.kind]
theorem two {w:World} {b o:Nat} {f:Flow} (h:ElAt encF w b o f):w.cell? ⟨b,o,none⟩=some (.string f.code)∧w.cell? ⟨b,o+1,none⟩=some (.int .i64 f.kind):=⟨h 0 _ rfl,h 1 _ rfl⟩
theorem box {w:World} {b:Nat} {t:TypeId} {f:Flow} (h:BoxE encF w b t f):w.cell? ⟨b,0,none⟩=some (.string f.code)∧w.cell? ⟨b,1,none⟩=some (.int .i64 f.kind):=⟨h.at0 0 _ rfl,h.at0 1 _ rfl⟩
def rightF (f:Flow):Bool:=nmB f.code && decide (0≤f.kind) && decide (f.kind < 5)
def tFlow:ByteArray:=⟨#[102,108,111,119]⟩
def tOpen:ByteArray:=⟨#[111,112,101,110]⟩
def tMove:ByteArray:=⟨#[109,111,118,101]⟩
def tFx:ByteArray:=⟨#[102,120]⟩
def tScope:ByteArray:=⟨#[115,99,111,112,101]⟩
def tClose:ByteArray:=⟨#[99,108,111,115,101]⟩
def kindW (n:Int):ByteArray:=if n=0 then tOpen else if n=1 then tMove else if n=2 then tFx else if n=3 then tScope else tClose
def kindO (s:ByteArray):Int:=if s=tOpen then 0 else if s=tMove then 1 else if s=tFx then 2 else if s=tScope then 3 else if s=tClose then 4 else -1
def wordsF (f:Flow):List ByteArray:=if rightF f=true then [tFlow,f.code,kindW f.kind] else []
def parseF:List ByteArray→Flow × Int
 | [x,c,k]=>if x=tFlow∧rightF ⟨c,kindO k⟩=true then (⟨c,kindO k⟩,0) else (zeroF,5)
 | _=>(zeroF,5)
theorem right_parts {f:Flow} (h:rightF f=true):nmB f.code=true∧(f.kind=0∨f.kind=1∨f.kind=2∨f.kind=3∨f.kind=4):=by
 unfold rightF at h
 simp only [Bool.and_eq_true,decide_eq_true_eq] at h
 exact ⟨h.1.1,by omega⟩
theorem kindO_kindW {n:Int} (h:n=0∨n=1∨n=2∨n=3∨n=4):kindO (kindW n)=n:=by
 rcases h with rfl | rfl | rfl | rfl | rfl <;> decide
theorem kindW_kindO {s:ByteArray} (h:0≤kindO s):kindW (kindO s)=s:=by
 unfold kindO at h ⊢
 by_cases h0:s=tOpen
 ·subst h0;rfl
 by_cases h1:s=tMove
 ·subst h1;rfl
 by_cases h2:s=tFx
 ·subst h2;rfl
 by_cases h3:s=tScope
 ·subst h3;rfl
 by_cases h4:s=tClose
 ·subst h4;rfl
 ·rw [if_neg h0,if_neg h1,if_neg h2,if_neg h3,if_neg h4] at h;omega
theorem words_of {f:Flow} (h:rightF f=true):wordsF f=[tFlow,f.code,kindW f.kind]:=by unfold wordsF;rw [if_pos h]
theorem words_nil {f:Flow} (h:rightF f=false):wordsF f=[]:=by unfold wordsF;rw [h];rfl
theorem parse_three (x c k:ByteArray):parseF [x,c,k]=if x=tFlow∧rightF ⟨c,kindO k⟩=true then (⟨c,kindO k⟩,0) else (zeroF,5):=rfl
theorem parse_words {f:Flow} (h:rightF f=true):parseF (wordsF f)=(f,0):=by
 rw [words_of h,parse_three,kindO_kindW (right_parts h).2,if_pos ⟨rfl,h⟩]
theorem parse_err (ws:List ByteArray):parseF ws=(zeroF,5)∨(wordsF (parseF ws).1=ws∧rightF (parseF ws).1=true∧(parseF ws).2=0):=by
 unfold parseF
 split
 ·rename_i x c k
  split
  ·rename_i h
   right
   obtain ⟨rfl,h2⟩:=h
   refine ⟨?_,h2,rfl⟩
   rw [words_of h2]
   have h0:0≤kindO k:=by
    unfold rightF at h2
    simp only [Bool.and_eq_true,decide_eq_true_eq] at h2
    exact h2.1.2
   rw [kindW_kindO h0]
  ·exact .inl rfl
 ·exact .inl rfl
theorem parse_len {ws:List ByteArray} (h:ws.length≠3):parseF ws=(zeroF,5):=by
 match ws,h with
 | [],_ | [_],_ | [_,_],_ | _::_::_::_::_,_=>rfl
 | [_,_,_],h=>exact absurd rfl h
abbrev findF (L:List Flow) (c:ByteArray):Option Flow:=findK Flow.code L c
def ofF (L:List Flow) (k:Int):List ByteArray:=(L.filter fun f=>decide (f.kind=k)).map Flow.code
def hasF (L:List Flow) (k:Int):Bool:=decide (0 < (ofF L k).length)
def addE (L:List Flow) (f:Flow):Int:=if rightF f=false then 1 else if (isK Flow.code L f.code || (decide (f.kind≠1) && hasF L f.kind))=true then 7 else if 60≤L.length then 4 else 0
def addV (L:List Flow) (f:Flow):List Flow:=if addE L f=0 then insK Flow.code L f else L
def kindL (L:List Flow) (c:ByteArray):Int:=if isK Flow.code L c=true then ((L[placeK Flow.code L c]?).getD zeroF).kind else 0
def wholeF (L:List Flow):Bool:=hasF L 0 && hasF L 2 && hasF L 3 && hasF L 4
def onesF (L:List Flow):Prop:=∀ k:Int,(0≤k∧k < 5)→k≠1→(ofF L k).length≤1
instance (L:List Flow):Decidable (onesF L):=decidable_of_iff ((ofF L 0).length≤1∧(ofF L 2).length≤1∧(ofF L 3).length≤1∧(ofF L 4).length≤1) (by
 unfold onesF
 constructor
 ·rintro ⟨h0,h2,h3,h4⟩ k hk h1
  rcases (by omega:k=0∨k=2∨k=3∨k=4) with rfl | rfl | rfl | rfl <;> assumption
 ·intro h
  exact ⟨h 0 (by omega) (by omega),h 2 (by omega) (by omega),h 3 (by omega) (by omega),h 4 (by omega) (by omega)⟩)
def riseF (L:List Flow):Bool:=riseK Flow.code L && decide (onesF L)
theorem ofF_length (L:List Flow) (k:Int):(ofF L k).length=(L.filter fun f=>decide (f.kind=k)).length:=by simp [ofF]
theorem mem_of {L:List Flow} {k:Int} {c:ByteArray}:c∈ofF L k ↔ ∃ f∈L,f.kind=k∧f.code=c:=by
 unfold ofF
 simp only [List.mem_map,List.mem_filter,decide_eq_true_eq]
 constructor
 ·rintro ⟨f,⟨h1,h2⟩,h3⟩;exact ⟨f,h1,h2,h3⟩
 ·rintro ⟨f,h1,h2,h3⟩;exact ⟨f,⟨h1,h2⟩,h3⟩
theorem addE_zero {L:List Flow} {f:Flow} (hr:riseK Flow.code L=true) (h:addE L f=0):rightF f=true∧findF L f.code=none∧(f.kind≠1→(ofF L f.kind).length=0)∧L.length < 60:=by
 unfold addE at h
 cases hrf:rightF f with
 | false=>rw [hrf] at h;simp at h
 | true =>
   rw [hrf] at h
   simp only [Bool.true_eq_false,if_false] at h
   cases hb:(isK Flow.code L f.code || (decide (f.kind≠1) && hasF L f.kind)) with
   | true=>rw [hb] at h;simp at h
   | false =>
     rw [hb] at h
     simp only [Bool.false_eq_true,if_false] at h
     rw [Bool.or_eq_false_iff] at hb
     refine ⟨rfl,?_,fun hk=>?_,?_⟩
     ·have:=(isK_find hr f.code).1
      rw [hb.1] at this
      cases hf:findF L f.code with
      | none=>rfl
      | some x =>
        have hf':findK Flow.code L f.code=some x:=hf
        rw [hf'] at this;cases this
     ·have h2:=hb.2
      rw [decide_eq_true hk,Bool.true_and] at h2
      unfold hasF at h2
      have:=of_decide_eq_false h2
      omega
     ·split at h
      ·simp at h
      ·omega
theorem ones_ins {L:List Flow} {f:Flow} (h:onesF L) (hf:f.kind≠1→(ofF L f.kind).length=0):onesF (insK Flow.code L f):=by
 intro k hk h1
 rw [ofF_length]
 by_cases e:f.kind=k
 ·rw [filter_ins_length L (by simpa using e),←ofF_length]
  subst e
  rw [hf h1]
  exact Nat.le_refl _
 ·rw [filter_ins_no L (by simpa using e),←ofF_length]
  exact h k hk h1
theorem rise_ins {L:List Flow} {f:Flow} (hr:riseF L=true) (h:addE L f=0):riseF (insK Flow.code L f)=true:=by
 unfold riseF at hr ⊢
 rw [Bool.and_eq_true,decide_eq_true_eq] at hr ⊢
 obtain ⟨_,h2,h3,_⟩:=addE_zero hr.1 h
 exact ⟨riseK_ins L f hr.1 h2,ones_ins hr.2 h3⟩
theorem rise_codes {L:List Flow} (h:riseF L=true):riseK Flow.code L=true:=by
 unfold riseF at h;rw [Bool.and_eq_true] at h;exact h.1
theorem rise_ones {L:List Flow} (h:riseF L=true):onesF L:=by
 unfold riseF at h;rw [Bool.and_eq_true,decide_eq_true_eq] at h;exact h.2
theorem kind_of {L:List Flow} (hr:riseK Flow.code L=true) {k:Int} {c:ByteArray} (hc:c∈ofF L k):isK Flow.code L c=true∧kindL L c=k∧∃ f,findF L c=some f∧f.kind=k:=by
 obtain ⟨f,hf,rfl,rfl⟩:=mem_of.1 hc
 have h1:=findK_of_mem hr hf
 obtain ⟨h2,h3⟩:=isK_find hr f.code
 rw [h1] at h2 h3
 have h2':isK Flow.code L f.code=true:=h2
 refine ⟨h2',?_,f,h1,rfl⟩
 unfold kindL
 rw [if_pos h2',h3 h2'];rfl
def wholeTo (L:List Flow):Nat→Bool
 | 0=>true
 | i+1=>wholeTo L i && (decide ((i:Int)=1) || decide ((ofF L (i:Int)).length=1))
theorem whole_eq {L:List Flow} (h:onesF L):wholeTo L 5=wholeF L:=by
 have h0:=h 0 (by omega) (by omega)
 have h2:=h 2 (by omega) (by omega)
 have h3:=h 3 (by omega) (by omega)
 have h4:=h 4 (by omega) (by omega)
 have e:∀ n:Nat,n≤1→decide (n=1)=decide (0 < n):=fun n hn=>by
  rw [Bool.eq_iff_iff];simp;omega
 simp [wholeTo,wholeF,hasF,e _ h0,e _ h2,e _ h3,e _ h4]
end Go.Proofs.YtfhhihamndbcnaaGreatDoor.Fl
end
section
namespace Go.Proofs.YtfhhihamndbcnaaGreatDoor.Un
open Go.RowKit
structure Ent where
 code:ByteArray
 cur:ByteArray
structure Lin where
 acc:ByteArray
 flow:ByteArray
 goal:ByteArray
theorem Ent.ext' {a b:Ent} (h0:a.code=b.code) (h1:a.cur=b.cur):a=b:=by
 cases a;cases b;simp_all
theorem Lin.ext' {a b:Lin} (h0:a.acc=b.acc) (h1:a.flow=b.flow) (h2:a.goal=b.goal):a=b:=by
 cases a;cases b;simp_all
instance : DecidableEq Ent:=fun a b =>
 if h:a.code=b.code∧a.cur=b.cur then isTrue (Ent.ext' h.1 h.2)
 else isFalse fun e=>h (by subst e;exact ⟨rfl,rfl⟩)
instance : DecidableEq Lin:=fun a b =>
 if h:a.acc=b.acc∧a.flow=b.flow∧a.goal=b.goal then isTrue (Lin.ext' h.1 h.2.1 h.2.2)
 else isFalse fun e=>h (by subst e;exact ⟨rfl,rfl,rfl⟩)
def Lin.key (x:Lin):ByteArray × ByteArray:=(x.acc,x.flow)
abbrev encE:Enc Ent:=⟨fun e=>[.string e.code,.string e.cur],2,fun _=>rfl,by decide,fun _ v hv=>by simp at hv;rcases hv with rfl | rfl <;> rfl⟩
abbrev encL:Enc Lin:=⟨fun e=>[.string e.acc,.string e.flow,.string e.goal],3,fun _=>rfl,by decide,fun _ v hv=>by simp at hv;rcases hv with rfl | rfl | rfl <;> rfl⟩
abbrev encA:Enc Acct:=⟨Acct.cells,6,fun _=>rfl,by decide,fun a v hv=>by simp [Acct.cells] at hv;rcases hv with rfl | rfl | rfl | rfl | rfl | rfl <;> rfl⟩
abbrev emp:ByteArray:=⟨#[]⟩
structure Mast where
 chart:List Acct
 flows:List Fl.Flow
 ents:List Ent
 lines:List Lin
 cur:ByteArray
 res:ByteArray
 dif:ByteArray
 min:ByteArray
 stk:ByteArray
def zeroM:Mast:=⟨[],[],[],[],emp,emp,emp,emp,emp⟩
def tEntity:ByteArray:=⟨#[101,110,116,105,116,121]⟩
def tMap:ByteArray:=⟨#[109,97,112]⟩
def tGroup:ByteArray:=⟨#[103,114,111,117,112]⟩
def tReserve:ByteArray:=⟨#[114,101,115,101,114,118,101]⟩
def tDiffer:ByteArray:=⟨#[100,105,102,102,101,114]⟩
def tMinor:ByteArray:=⟨#[109,105,110,111,114]⟩
def tStake:ByteArray:=⟨#[115,116,97,107,101]⟩
def lenW (h:ByteArray):Int :=
 if h=tGroup∨h=tReserve∨h=tDiffer∨h=tMinor∨h=tStake then 2 else if h=tEntity then 3 else if h=tMap then 4 else 0
def wd (ws:List ByteArray) (i:Nat):ByteArray:=ws.getD i emp
def namesW (ws:List ByteArray):Bool:=(ws.drop 1).all nmB
def formedW (ws:List ByteArray):Bool:=decide (0 < ws.length) && (decide ((ws.length:Int)=lenW (wd ws 0)) && namesW ws)
def entOf (ws:List ByteArray):Ent:=⟨wd ws 1,wd ws 2⟩
def linOf (ws:List ByteArray):Lin:=⟨wd ws 1,wd ws 2,wd ws 3⟩
def entE (L:List Ent) (x:Ent):Int:=if (G.findK Ent.code L x.code).isSome=true then 7 else if 60≤L.length then 4 else 0
def linEr (L:List Lin) (x:Lin):Int:=if (G.findK Lin.key L x.key).isSome=true then 7 else if 1000≤L.length then 4 else 0
def oneE (x:ByteArray):Int:=if x=emp then 0 else 7
def stepE (M:Mast) (ws:List ByteArray):Int :=
 if wd ws 0=tAccount then (if (parseA ws).2=0 then addE M.chart (parseA ws).1 else (parseA ws).2)
 else if wd ws 0=Fl.tFlow then (if (Fl.parseF ws).2=0 then Fl.addE M.flows (Fl.parseF ws).1 else (Fl.parseF ws).2)
 else if formedW ws=false then 5
 else if wd ws 0=tEntity then entE M.ents (entOf ws)
 else if wd ws 0=tMap then linEr M.lines (linOf ws)
 else if wd ws 0=tGroup then oneE M.cur
 else if wd ws 0=tReserve then oneE M.res
 else if wd ws 0=tDiffer then oneE M.dif
 else if wd ws 0=tMinor then oneE M.min
 else oneE M.stk
def stepV (M:Mast) (ws:List ByteArray):Mast :=
 if wd ws 0=tAccount then { M with chart:=insL M.chart (parseA ws).1 }
 else if wd ws 0=Fl.tFlow then { M with flows:=insK Fl.Flow.code M.flows (Fl.parseF ws).1 }
 else if wd ws 0=tEntity then { M with ents:=G.insK Ent.code M.ents (entOf ws) }
 else if wd ws 0=tMap then { M with lines:=G.insK Lin.key M.lines (linOf ws) }
 else if wd ws 0=tGroup then { M with cur:=wd ws 1 }
 else if wd ws 0=tReserve then { M with res:=wd ws 1 }
 else if wd ws 0=tDiffer then { M with dif:=wd ws 1 }
 else if wd ws 0=tMinor then { M with min:=wd ws 1 }
 else { M with stk:=wd ws 1 }
def runM:Mast→List (List ByteArray)→Mast × Int
 | M,[]=>(M,0)
 | M,ws::r=>if stepE M ws=0 then runM (stepV M ws) r else (zeroM,stepE M ws)
def hasA (c:List Acct) (s:ByteArray):Bool:=(findL c s).isSome
def rolesN (M:Mast):Bool:=hasA M.chart M.res && hasA M.chart M.dif && hasA M.chart M.min && hasA M.chart M.stk
def lineN (M:Mast) (x:Lin):Bool:=hasA M.chart x.acc && isK Fl.Flow.code M.flows x.flow
def linesN (M:Mast):Bool:=M.lines.all (lineN M)
def plainA (c:List Acct) (s:ByteArray) (cls:Int):Bool:=decide ((findL c s).getD zeroA=⟨s,cls,false,false,emp,false⟩)
def rolesP (M:Mast):Bool:=plainA M.chart M.res 2 && plainA M.chart M.dif 0 && plainA M.chart M.min 2 && plainA M.chart M.stk 0
def allE (M:Mast):Int :=
 if (decide (M.cur=emp) || !rolesN M || !linesN M)=true then 6
 else if Fl.wholeF M.flows=false then 8
 else if rolesP M=false then 15 else 0
def endM (r:Mast × Int):Mast × Int:=if r.2=0 then (if allE r.1=0 then r else (zeroM,allE r.1)) else (zeroM,r.2)
def linesM (l:List (List ByteArray)):Mast × Int:=endM (runM zeroM l)
def wordsT (s:ByteArray):List (List ByteArray):=(asB (linV s.data.toList)).map (·.2)
def parseM (s:ByteArray):Mast × Int:=if linE s.data.toList=0 then linesM (wordsT s) else (zeroM,linE s.data.toList)
theorem runM_cons (M:Mast) (ws:List ByteArray) (r:List (List ByteArray)) (h:stepE M ws=0):runM M (ws::r)=runM (stepV M ws) r:=by simp [runM,h]
theorem runM_stop (M:Mast) (ws:List ByteArray) (r:List (List ByteArray)) (h:stepE M ws≠0):runM M (ws::r)=(zeroM,stepE M ws):=by simp [runM,h]
theorem endM_stop (n:Int) (h:n≠0):endM (zeroM,n)=(zeroM,n):=by simp [endM,h]
theorem endM_no (M:Mast) (h:allE M≠0):endM (M,0)=(zeroM,allE M):=by simp [endM,h]
theorem endM_ok (M:Mast) (h:allE M=0):endM (M,0)=(M,0):=by simp [endM,h]
end Go.Proofs.YtfhhihamndbcnaaGreatDoor.Un
end
section
namespace Go.Proofs.YtfhhihamndbcnaaGreatDoor.Fl
open Go.RowKit
def cmpB (x y:ByteArray):Int:=Lib.compareBytes x.data.toList y.data.toList
theorem cmpL_lt:∀ (x y:List UInt8),Lib.compareBytes x y < 0 ↔ Op.bytesLess x y=true
 | [],[]=>by simp [Lib.compareBytes,Op.bytesLess]
 | [],_::_=>by simp [Lib.compareBytes,Op.bytesLess]
 | _::_,[]=>by simp [Lib.compareBytes,Op.bytesLess]
 | a::x,b::y=>by
   have ih:=cmpL_lt x y
   unfold Lib.compareBytes Op.bytesLess
   by_cases h1:a < b
   ·simp [h1]
   ·by_cases h2:b < a
    ·have:(a==b)=false:=by
      rw [beq_eq_false_iff_ne]
      rintro rfl
      exact h1 h2
     simp [h1,h2,this]
    ·have:a=b:=by
      rw [UInt8.lt_iff_toNat_lt] at h1 h2
      exact UInt8.toNat_inj.1 (by omega)
     subst this
     simp [h1,ih]
theorem cmpL_eq0:∀ (x y:List UInt8),Lib.compareBytes x y=0 ↔ x=y
 | [],[]=>by simp [Lib.compareBytes]
 | [],_::_=>by simp [Lib.compareBytes]
 | _::_,[]=>by simp [Lib.compareBytes]
 | a::x,b::y=>by
   have ih:=cmpL_eq0 x y
   unfold Lib.compareBytes
   by_cases h1:a < b
   ·have:a≠b:=by
     rintro rfl
     rw [UInt8.lt_iff_toNat_lt] at h1;omega
    simp [h1,this]
   ·by_cases h2:b < a
    ·have:a≠b:=by
      rintro rfl
      exact h1 h2
     simp [h1,h2,this]
    ·have:a=b:=by
      rw [UInt8.lt_iff_toNat_lt] at h1 h2
      exact UInt8.toNat_inj.1 (by omega)
     subst this
     simp [h1,ih]
theorem cmpB_lt (x y:ByteArray):decide (cmpB x y < 0)=ltS x y:=by
 rw [Bool.eq_iff_iff,decide_eq_true_eq]
 unfold cmpB ltS
 rw [cmpL_lt,ByteArray.toList_eq,ByteArray.toList_eq]
theorem cmpB_eq (x y:ByteArray):(cmpB x y==0)=decide (x=y):=by
 rw [Bool.eq_iff_iff,beq_iff_eq,decide_eq_true_eq]
 unfold cmpB
 rw [cmpL_eq0]
 exact ⟨fun h=>toList_inj (by rw [ByteArray.toList_eq,ByteArray.toList_eq];exact h),fun h=>by rw [h]⟩
set_option maxHeartbeats 1000000 in
set_option maxRecDepth 100000 in
theorem compareString_any (a b:ByteArray) (w:World) :
 Calls Tryz.prog 138 #[.string a,.string b] w fun e w'=>e=.returned (.int .i64 (cmpB a b))∧w'=w:=by
 go_enter Tryz.func138,Tryz.ntmps138
 go_wp2
 rw [run_callFunc_extern Tryz.func167 (by kernel_rfl) (by kernel_rfl) (by kernel_rfl) (e:=Extern.BytealgCompare.compare) (by kernel_rfl),Lib.run_compareString]
 simp only [Result.andThen]
 rw [Oper.upon_value]
 go_wp2
 go_ret
 exact ⟨rfl,rfl⟩
set_option maxHeartbeats 1000000 in
theorem compare_any (a b:ByteArray) (w:World) :
 Calls Tryz.prog 106 #[.string a,.string b] w fun e w'=>e=.returned (.int .i64 (cmpB a b))∧w'=w:=by
 go_enter Tryz.func106,Tryz.ntmps106
 go_wp2_with (go_at_call 138;refine (compareString_any _ _ _).mono ?_;rintro e w' ⟨rfl,rfl⟩)
 go_ret
 exact ⟨rfl,rfl⟩
set_option maxHeartbeats 1000000 in
theorem against_any (f:Flow) (c:ByteArray) (w:World) :
 Calls Tryz.prog 68 #[aggL f,.string c] w fun e w'=>e=.returned (.int .i64 (cmpB f.code c))∧Below w.heap.size w w':=by
 have HB:=Lib.hid ((Below.refl w.heap.size w).alloc (Nat.le_refl _) (.cells #[.string f.code,.int .i64 f.kind] 81))
 go_enter Tryz.func68,Tryz.ntmps68
 go_wp2_with (go_at_call 106;refine (compare_any _ _ _).mono ?_;rintro e w' ⟨rfl,rfl⟩)
 go_ret
 exact ⟨rfl,HB.out⟩
structure SearchAt (w wr:World) (L:List Flow) (c:ByteArray) (lo hi:Nat):Prop where
 le:lo≤hi
 top:hi≤L.length
 bel:Below w.heap.size w wr
 low:∀ (t:Nat) (x:Flow),t < lo→L[t]?=some x→ltS x.code c=true
 high:∀ (t:Nat) (x:Flow),hi≤t→L[t]?=some x→ltS x.code c=false
set_option maxRecDepth 100000 in
set_option maxHeartbeats 4000000 in
theorem search_any (v:Value) (L:List Flow) (c:ByteArray) (w:World) (h:FlowsV w v L) (hr:riseK Flow.code L=true) (hL:L.length≤1000) :
 Calls Tryz.prog 67 #[v,.string c,.func (.func 68) #[] #[]] w fun e w'=>e=.returned (.tuple #[.int .i64 (placeK Flow.code L c:Nat),.bool (isK Flow.code L c)])∧Below w.heap.size w w':=by
 obtain ⟨p,cap,rfl,hcap,hm,_,hc⟩:=h
 obtain ⟨n,hn⟩:∃ n,L.length=n:=⟨_,rfl⟩
 obtain ⟨pl,hpl⟩:∃ pl,placeK Flow.code L c=pl:=⟨_,rfl⟩
 obtain ⟨is,his⟩:∃ is,isK Flow.code L c=is:=⟨_,rfl⟩
 rw [hn] at hcap hL ⊢
 rw [hpl,his]
 have HC:=Lib.hid hc
 have HN:=Lib.hid hn
 have HPL:=Lib.hid hpl
 have HIS:=Lib.hid his
 have HRI:=Lib.hid hr
 unfold maxLen at hm
 clear hc hn hpl his hr
 go_enter Tryz.func67,Tryz.ntmps67
 go_wp2
 go_loopg [9,10] n (fun kx s9 s10 wr=>∃ lo hi:Nat,s9=.int .i64 (lo:Int)∧s10=.int .i64 (hi:Int)∧hi - lo≤kx∧lo≤hi∧hi≤n∧Hid (SearchAt w wr L c lo hi))
 case atStart=>exact ⟨0,n,rfl,rfl,by omega,Nat.zero_le _,Nat.le_refl _,Lib.hid ⟨Nat.zero_le _,by rw [HN.out];exact Nat.le_refl _,Below.refl _ _,fun t x ht=>absurd ht (Nat.not_lt_zero _),fun t x ht hx=>by
  have:=(List.getElem?_eq_some_iff.1 hx).1
  rw [HN.out] at this;omega⟩⟩
 case round =>
  obtain ⟨lo,hi,rfl,rfl,hkx,hlh,hin,HA⟩:=hrel
  by_cases hlt:lo < hi
  ·have hmid:(lo+hi) / 2 < n:=by omega
   obtain ⟨x,hx⟩:∃ x,L[(lo+hi) / 2]?=some x:=⟨_,List.getElem?_eq_getElem (by rw [HN.out];exact hmid)⟩
   obtain ⟨b,o,rfl,hat⟩:=HC.out _ x hx
   obtain ⟨c0,c1⟩:=two (hat.keep HA.out.bel hat.lt)
   have HX:=Lib.hid hx
   clear hx hat
   have HAG:=Lib.hid (against_any x c wr)
   obtain ⟨m,hmm⟩:∃ m,cmpB x.code c=m:=⟨_,rfl⟩
   have HM:=Lib.hid (cmpB_lt x.code c)
   rw [hmm] at HAG HM
   clear hmm
   by_cases hm0:m < 0
   ·have HLT:Hid (ltS x.code c=true):=Lib.hid (by rw [←HM.out];exact decide_eq_true hm0)
    go_wp2_with (go_at_call 68;refine HAG.out.mono ?_;rintro e w' ⟨rfl,hb'⟩)
    go_roundg (hi - ((lo+hi) / 2+1))
    case measure=>omega
    case rel=>exact ⟨(lo+hi) / 2+1,hi,by rw [show ((lo:Int)+(hi:Int)) / 2+1=(((lo+hi) / 2+1:Nat):Int) by omega],rfl,Nat.le_refl _,by omega,hin,Lib.hid ⟨by omega,HA.out.top,HA.out.bel.trans (hb'.mono HA.out.bel.size),fun t y ht hy=>by
     rcases Nat.lt_or_ge t ((lo+hi) / 2) with h | h
     ·exact ltS_trans (riseK_at HRI.out h hy HX.out) HLT.out
     ·obtain rfl:t=(lo+hi) / 2:=by omega
      rw [HX.out] at hy;cases hy;exact HLT.out,HA.out.high⟩⟩
   ·have HLT:Hid (ltS x.code c=false):=Lib.hid (by rw [←HM.out];exact decide_eq_false hm0)
    go_wp2_with (go_at_call 68;refine HAG.out.mono ?_;rintro e w' ⟨rfl,hb'⟩)
    go_roundg ((lo+hi) / 2 - lo)
    case measure=>omega
    case rel=>exact ⟨lo,(lo+hi) / 2,rfl,by rw [show ((lo:Int)+(hi:Int)) / 2=(((lo+hi) / 2:Nat):Int) by omega],Nat.le_refl _,by omega,by omega,Lib.hid ⟨by omega,by have:=HA.out.top;omega,HA.out.bel.trans (hb'.mono HA.out.bel.size),HA.out.low,fun t y ht hy=>by
     rcases Nat.lt_or_ge ((lo+hi) / 2) t with h | h
     ·cases hy':ltS y.code c with
      | false=>rfl
      | true=>rw [ltS_trans (riseK_at HRI.out h HX.out hy) hy'] at HLT;cases HLT.out
     ·obtain rfl:t=(lo+hi) / 2:=by omega
      rw [HX.out] at hy;cases hy;exact HLT.out⟩⟩
  ·obtain rfl:hi=lo:=by omega
   have hpl:Hid (pl=hi):=Lib.hid (by
    rw [←HPL.out]
    exact placeK_at HA.out.top HA.out.low (fun y hy=>HA.out.high hi y (Nat.le_refl _) hy))
   by_cases hn:hi < n
   ·obtain ⟨x,hx⟩:∃ x,L[hi]?=some x:=⟨_,List.getElem?_eq_getElem (by rw [HN.out];exact hn)⟩
    obtain ⟨b,o,rfl,hat⟩:=HC.out _ x hx
    obtain ⟨c0,c1⟩:=two (hat.keep HA.out.bel hat.lt)
    have HX:=Lib.hid hx
    clear hx hat
    have HAG:=Lib.hid (against_any x c wr)
    obtain ⟨m,hmm⟩:∃ m,cmpB x.code c=m:=⟨_,rfl⟩
    have HM:=Lib.hid (cmpB_eq x.code c)
    rw [hmm] at HAG HM
    clear hmm
    have HI2:Hid (is=(m==0)):=Lib.hid (by
     rw [←HIS.out,HM.out]
     unfold isK
     rw [HPL.out,hpl.out,HX.out])
    go_wp2_with (go_at_call 68;refine HAG.out.mono ?_;rintro e w' ⟨rfl,hb'⟩)
    go_ret2
    exact ⟨by rw [hpl.out,HI2.out];rfl,HA.out.bel.trans (hb'.mono HA.out.bel.size)⟩
   ·have HI2:Hid (is=false):=Lib.hid (by
     rw [←HIS.out]
     unfold isK
     rw [HPL.out,hpl.out,List.getElem?_eq_none (by rw [HN.out];omega)])
    go_wp2
    go_ret2
    exact ⟨by rw [hpl.out,HI2.out];rfl,HA.out.bel⟩
set_option maxRecDepth 100000 in
set_option maxHeartbeats 4000000 in
theorem place_any (v:Value) (L:List Flow) (c:ByteArray) (w:World) (h:FlowsV w v L) (hr:riseK Flow.code L=true) (hL:L.length≤1000) :
 Calls Tryz.prog 41 #[v,.string c] w fun e w'=>e=.returned (.tuple #[.int .i64 (placeK Flow.code L c:Nat),.bool (isK Flow.code L c)])∧Below w.heap.size w w':=by
 have HS:=Lib.hid (search_any v L c w h hr hL)
 obtain ⟨pl,hpl⟩:∃ pl,placeK Flow.code L c=pl:=⟨_,rfl⟩
 obtain ⟨is,his⟩:∃ is,isK Flow.code L c=is:=⟨_,rfl⟩
 rw [hpl,his] at HS ⊢
 clear hpl his h hr
 go_enter Tryz.func41,Tryz.ntmps41
 go_wp2_with (go_at_call 67;refine HS.out.mono ?_;rintro e w' ⟨rfl,hb'⟩)
 go_ret2
 exact ⟨rfl,hb'⟩
set_option maxRecDepth 100000 in
set_option maxHeartbeats 4000000 in
theorem kind_any (v:Value) (L:List Flow) (c:ByteArray) (w:World) (h:FlowsV w v L) (hr:riseK Flow.code L=true) (hL:L.length≤1000) :
 Calls Tryz.prog 22 #[v,.string c] w fun e w'=>e=.returned (.tuple #[.int .i64 (kindL L c),.bool (isK Flow.code L c)])∧Below w.heap.size w w':=by
 have HP:=Lib.hid (place_any v L c w h hr hL)
 obtain ⟨pl,hpl⟩:∃ pl,placeK Flow.code L c=pl:=⟨_,rfl⟩
 obtain ⟨is,his⟩:∃ is,isK Flow.code L c=is:=⟨_,rfl⟩
 obtain ⟨k,hk⟩:∃ k,kindL L c=k:=⟨_,rfl⟩
 rw [hpl,his] at HP
 rw [his,hk]
 have HPL:=Lib.hid hpl
 have HIS:=Lib.hid his
 have HK:=Lib.hid hk
 obtain ⟨p,cap,rfl,hcap,hm,_,hc⟩:=h
 unfold maxLen at hm
 have HC:=Lib.hid hc
 clear hpl his hk hc hr
 cases is with
 | false =>
   have hk0:Hid (k=0):=Lib.hid (by rw [←HK.out];unfold kindL;rw [HIS.out];rfl)
   go_enter Tryz.func22,Tryz.ntmps22
   go_wp2_with (go_at_call 41;refine HP.out.mono ?_;rintro e w' ⟨rfl,hb'⟩)
   go_ret2
   exact ⟨by rw [hk0.out];rfl,hb'⟩
 | true =>
   have hx:∃ x,L[pl]?=some x∧x.kind=k:=by
    have h1:=HIS.out
    have h2:=HK.out
    unfold kindL at h2
    rw [h1,HPL.out] at h2
    unfold isK at h1
    rw [HPL.out] at h1
    cases hx:L[pl]? with
    | none=>rw [hx] at h1;cases h1
    | some x=>rw [hx] at h2;exact ⟨x,rfl,h2⟩
   obtain ⟨x,hx,hxk⟩:=hx
   have hpn:pl < L.length:=(List.getElem?_eq_some_iff.1 hx).1
   obtain ⟨b,o,rfl,hat⟩:=HC.out _ x hx
   have HAT:=Lib.hid hat
   have HXK:=Lib.hid hxk
   obtain ⟨n,hn⟩:∃ n,L.length=n:=⟨_,rfl⟩
   rw [hn] at hpn hcap hL HP ⊢
   clear hx hat hxk hn
   go_enter Tryz.func22,Tryz.ntmps22
   go_wp2_with (go_at_call 41;refine HP.out.mono ?_;rintro e w' ⟨rfl,hb'⟩;obtain ⟨c0,c1⟩:=two (HAT.out.keep hb' HAT.out.lt))
   go_ret2
   exact ⟨by rw [←HXK.out];rfl,hb'⟩
end Go.Proofs.YtfhhihamndbcnaaGreatDoor.Fl
end
