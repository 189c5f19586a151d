/- AppendEl FaMem StoreEl FaCmp FaClone FaEql FaOurs -/
import Derived.Deep.LoopGhost
import Derived.Deep.OwnRows
import Derived.Deep.QuietTactic
import Derived.Handy
import Derived.Laws.StructEq
import Derived.Lib.SliceRun
import Derived.Lib.Walk
import Derived.LoopTactic
import Derived.OwnWalk
import Derived.RegionTactic
import Derived.Sort.Grow
import Derived.StillTailTactics
import Derived.WalkLawsBesides
import Derived.Test.YtfhhihamndbcnaaGreatDoorR03
import Derived.Test.YtfhhihamndbcnaaGreatDoorR05
section
namespace Go.Proofs.YtfhhihamndbcnaaGreatDoor
open Go.RowKit
structure InfoE {α:Type} (P:Program) (t e:TypeId) (E:Enc α):Prop where
 under:P.underlying t=some (.slice e)
 info:∃ i z n,P.info? e=some i∧i.zero=some z∧i.size=E.k∧i.bytes=n∧z.cells.size=E.k∧n≤1000
theorem InfoE.of {α:Type} {P:Program} {t e:TypeId} {E:Enc α} {z:Value} {n:Nat} (hu:P.underlying t=some (.slice e)) (h:(P.info? e).map (fun i=>(i.zero,i.size,i.bytes))=some (some z,E.k,n)) (hz:z.cells.size=E.k) (hn:n≤1000):InfoE P t e E:=by
 refine ⟨hu,?_⟩
 cases hi:P.info? e with
 | none=>rw [hi] at h;cases h
 | some i =>
   rw [hi] at h
   simp only [Option.map_some,Option.some.injEq,Prod.mk.injEq] at h
   exact ⟨i,z,n,rfl,h.1,h.2.1,h.2.2,hz,hn⟩
theorem wpList_append_el {α:Type} {E:Enc α} {P:Program} {ops:Array Oper} {rest:List Oper} {o:Oper} {a:Act} {w:World} {Q:Exit→Act→World→Prop} (hgd:o.guard=none) (s x:Operand) (t e:TypeId) (ho:o.op=.call { callee:=.builtin .append,args:=#[s,x],argTypes:=#[t,t] }) (HI:InfoE P t e E)
 (B:Nat) (L:List α) (y:α) (g:Nat) (hrow:w.ownsRow B e E.k (a.eval s) L.length (flat E L)) (hx:a.eval x=.slice (some ⟨g,0,none⟩) 1 1) (hc:ElAt E w g 0 y) (hB:B≤w.heap.size) (hL:L.length≤1000000)
 (h:∀ v' w',w'.ownsRow B e E.k v' (L++[y]).length (flat E (L++[y]))→Below B w w'→w.grownBy w' (a.eval s).ownBlock→wpList P ops Q rest (a.put o.dst v') w'):wpList P ops Q (o::rest) a w:=by
 obtain ⟨i,z,n,hi,hz,hs,hn,hzs,hb⟩:=HI.info
 refine wpList_append_own w hgd s x t ho B e i z E.k n HI.under hi hz hs hn hzs E.pos _ _ _ rfl hrow ⟨g,0,none⟩ 1 1 (E.cs y) hx (by rw [E.len,Nat.one_mul]) (fun j u hj=>by rw [add_off];exact hc j u hj) (E.one y) (by unfold maxLen;omega) ?_ hB ?_
 ·exact Nat.le_trans (Nat.mul_le_mul (Nat.add_le_add_right hL 1) hb) (by decide)
 ·intro v' w' h1 h2 _
  exact h v' w' (by rw [flat_append,flat_one,List.length_append];exact h1) (below_grown (Below.refl _ _) hB hrow h2) h2
theorem el_new {α:Type} (E:Enc α) (w:World) (y:α) (t:TypeId):ElAt E (w.alloc (.cells (E.cs y).toArray t)) w.heap.size 0 y:=(BoxE.new E w y t).at0
end Go.Proofs.YtfhhihamndbcnaaGreatDoor
end
section
namespace Go.Proofs.YtfhhihamndbcnaaGreatDoor.Fa
open Go.RowKit Go.Lib Go.Sort
def encK:Enc Key where
 cs k:=[.string k.e,.string k.a,.string k.f,.string k.p,.int .i64 k.m]
 k:=5
 len _:=rfl
 pos:=by decide
 one:=by intro k v hv;simp at hv;rcases hv with rfl | rfl | rfl | rfl | rfl <;> rfl
def encF:Enc Fact where
 cs f:=[.string f.key.e,.string f.key.a,.string f.key.f,.string f.key.p,.int .i64 f.key.m,.int .i64 f.amt]
 k:=6
 len _:=rfl
 pos:=by decide
 one:=by intro k v hv;simp at hv;rcases hv with rfl | rfl | rfl | rfl | rfl | rfl <;> rfl
abbrev aggK (k:Key):Value:=.agg #[.string k.e,.string k.a,.string k.f,.string k.p,.int .i64 k.m]
abbrev aggF (f:Fact):Value:=.agg #[.string f.key.e,.string f.key.a,.string f.key.f,.string f.key.p,.int .i64 f.key.m,.int .i64 f.amt]
abbrev FactsV (w:World) (v:Value) (L:List Fact):Prop:=ElsV encF w v L
theorem key5 {w:World} {b o:Nat} {k:Key} (h:ElAt encK w b o k):w.cell? ⟨b,o,none⟩=some (.string k.e)∧w.cell? ⟨b,o+1,none⟩=some (.string k.a)∧w.cell? ⟨b,o+2,none⟩=some (.string k.f)∧w.cell? ⟨b,o+3,none⟩=some (.string k.p)∧w.cell? ⟨b,o+4,none⟩=some (.int .i64 k.m):=⟨h 0 _ rfl,h 1 _ rfl,h 2 _ rfl,h 3 _ rfl,h 4 _ rfl⟩
theorem fact6 {w:World} {b o:Nat} {f:Fact} (h:ElAt encF w b o f):w.cell? ⟨b,o,none⟩=some (.string f.key.e)∧w.cell? ⟨b,o+1,none⟩=some (.string f.key.a)∧w.cell? ⟨b,o+2,none⟩=some (.string f.key.f)∧w.cell? ⟨b,o+3,none⟩=some (.string f.key.p)∧w.cell? ⟨b,o+4,none⟩=some (.int .i64 f.key.m)∧w.cell? ⟨b,o+5,none⟩=some (.int .i64 f.amt):=⟨h 0 _ rfl,h 1 _ rfl,h 2 _ rfl,h 3 _ rfl,h 4 _ rfl,h 5 _ rfl⟩
def encI:Enc Int where
 cs a:=[.int .i64 a]
 k:=1
 len _:=rfl
 pos:=by decide
 one:=by intro k v hv;simp at hv;subst hv;rfl
theorem rowIs_els {w:World} {p:Option Addr} {n c:Nat} {l:List Int} (h:ElsV encI w (.slice p n c) l):RowIs .i64 w p l.length l:=by
 obtain ⟨p',c',e,h1,h2,h3,hc⟩:=h
 cases e
 refine ⟨rfl,by omega,fun i hi=>?_⟩
 obtain ⟨b,o,e,hat⟩:=hc i _ (List.getElem?_eq_getElem hi)
 refine ⟨b,o,e,?_⟩
 have:=hat 0 _ rfl
 rw [Nat.add_zero,show encI.k=1 from rfl,Nat.mul_one] at this
 rw [this,getD_at l i hi]
def Grew (w w':World):Prop:=∃ q os,w'=grow (w.drewN q) os
theorem belowN {B:Nat} {a w:World} (h:Below B a w) (n:Nat):Below B a (w.drewN n):=⟨h.os,h.tape,h.output,h.size,h.block⟩
theorem Grew.refl (w:World):Grew w w:=⟨0,#[],by rw [grow_empty];rfl⟩
theorem Grew.trans {a b c:World} (h:Grew a b) (h':Grew b c):Grew a c:=by
 obtain ⟨q,os,rfl⟩:=h
 obtain ⟨q',os',rfl⟩:=h'
 refine ⟨q+q',os++os',?_⟩
 unfold grow World.drewN
 simp only [World.mk.injEq,Array.append_assoc,and_true,true_and]
 omega
theorem Grew.alloc {a b:World} (h:Grew a b) (o:Obj):Grew a (b.alloc o):=h.trans ⟨0,#[o],by rw [alloc_eq_grow];rfl⟩
theorem Grew.drew {a b:World} (h:Grew a b):Grew a b.drew:=h.trans ⟨1,#[],by rw [grow_empty];rfl⟩
theorem Grew.below {a b:World} (h:Grew a b):Below a.heap.size a b:=by
 obtain ⟨q,os,rfl⟩:=h
 refine ⟨rfl,rfl,rfl,by rw [size_grow];exact Nat.le_add_right _ _,fun k hk=>?_⟩
 exact heap_grow_old _ _ (by exact hk)
theorem el_new1 (w:World) (o:Obj) (y:Fact) (t:TypeId):ElAt encF ((w.alloc o).alloc (.cells (encF.cs y).toArray t)) (w.heap.size+1) 0 y:=by
 have:=el_new encF (w.alloc o) y t
 rw [World.size_alloc] at this
 exact this
theorem ElsV.at_ {α:Type} {E:Enc α} {w:World} {p:Option Addr} {n c:Nat} {L:List α} (h:ElsV E w (.slice p n c) L) {i:Nat} {x:α} (hx:L[i]?=some x):∃ b o,p=some ⟨b,o,none⟩∧ElAt E w b (o+i * E.k) x:=by
 obtain ⟨p',c',e,_,_,_,hc⟩:=h
 cases e
 exact hc i x hx
end Go.Proofs.YtfhhihamndbcnaaGreatDoor.Fa
end
section
namespace Go.Proofs.YtfhhihamndbcnaaGreatDoor.Fa
open Go.RowKit
def putL:List Value→Nat→List Value→List Value
 | xs,_,[]=>xs
 | xs,o,v::r=>putL (xs.set o v) (o+1) r
theorem putL_mid:∀ (vs A X D:List Value),X.length=vs.length→putL (A++X++D) A.length vs=A++vs++D
 | [],A,X,D,h=>by
   have:X=[]:=List.eq_nil_of_length_eq_zero h
   subst this
   rfl
 | v::vs,A,[],D,h=>by simp at h
 | v::vs,A,x::X,D,h=>by
   have e:(A++x::X++D).set A.length v=(A++[v])++X++D:=by
    rw [List.append_assoc,List.set_append_right _ _ (Nat.le_refl _),Nat.sub_self]
    simp
   have ih:=putL_mid vs (A++[v]) X D (by simpa using h)
   rw [List.length_append,List.length_singleton] at ih
   show putL ((A++x::X++D).set A.length v) (A.length+1) vs=_
   rw [e,ih]
   simp
theorem putL_flat {α:Type} (E:Enc α) (L:List α) (i:Nat) (y:α) (hi:i < L.length):putL (flat E L) (i * E.k) (E.cs y)=flat E (L.set i y):=by
 have e:L=L.take i++L[i]::L.drop (i+1):=by rw [←List.drop_eq_getElem_cons hi,List.take_append_drop]
 have e2:L.set i y=L.take i++y::L.drop (i+1):=by rw [List.set_eq_take_append_cons_drop,if_pos hi]
 have h1:(flat E (L.take i)).length=i * E.k:=by rw [flat_length,List.length_take,Nat.min_eq_left (by omega)]
 conv=>lhs;rw [e]
 rw [flat_append,flat_cons,←List.append_assoc,←h1,putL_mid (E.cs y) _ _ _ (by rw [E.len,E.len]),e2,flat_append,flat_cons,List.append_assoc]
theorem stored_cells {w:World} {B g s n c:Nat} {e:TypeId} {xs:List Value} (h:w.ownsRow B e s (.slice (some ⟨g,0,none⟩) n c) n xs):∀ (vs:List Value) (o:Nat),(w.setCells g o vs).ownsRow B e s (.slice (some ⟨g,0,none⟩) n c) n (putL xs o vs)∧w.grownBy (w.setCells g o vs) (some g):=by
 intro vs
 induction vs generalizing w xs with
 | nil=>intro o;exact ⟨h,World.grownBy.refl w _⟩
 | cons v vs ih =>
   intro o
   obtain ⟨s1,g1⟩:=World.ownsRow.stored h o v
   obtain ⟨s2,g2⟩:=ih s1 (o+1)
   exact ⟨s2,g1.trans g2⟩
theorem wp_store_part {α:Type} {E:Enc α} {P:Program} {o:Oper} {a:Act} {w:World} {K:Act→World→Prop} {Q:Exit→Act→World→Prop} (ty:TypeId) (x y:Operand) (ho:o.op=.store ty x y)
 (B g n c:Nat) (e:TypeId) (L:List α) (i:Nat) (z:α) (hx:a.eval x=.pointer (some ⟨g,i * E.k,none⟩)) (hy:a.eval y=.agg (E.cs z).toArray) (hrow:w.ownsRow B e E.k (.slice (some ⟨g,0,none⟩) n c) n (flat E L)) (hn:L.length=n) (hi:i < n) (hti:(P.info? ty).map (·.size)=some E.k)
 (h:∀ w',w'.ownsRow B e E.k (.slice (some ⟨g,0,none⟩) n c) n (flat E (L.set i z))→w.grownBy w' (some g)→K (a.put o.dst undef) w'):o.wp P a w K Q:=by
 subst hn
 have hfr:∀ j,w.frozen? ⟨g,j,none⟩=false:=fun j=>by
  rcases hrow.2 with ⟨h',_⟩ | ⟨g',cap',cur,h',_,hg,_⟩
  ·cases h'
  ·cases h';simp [World.frozen?,hg]
 have hst:=run_storeCells_cells (P:=P) g (i * E.k) (E.cs z) 0 w (fun j hj=>by
  rw [E.len] at hj
  have hxl:j < (E.cs L[i]).length:=by rw [E.len];exact hj
  have:=hrow.cells (g:=g) rfl _ _ (flat_at L i L[i] (List.getElem?_eq_getElem hi) j _ (List.getElem?_eq_getElem hxl))
  rw [add_off,Nat.zero_add] at this
  rw [Nat.add_zero,this];rfl) (fun j _=>hfr _) (E.one z)
 rw [Nat.add_zero] at hst
 have hrun:(storeVar ty ⟨g,i * E.k,none⟩ (.agg (E.cs z).toArray)).run P w=.ok () (w.setCells g (i * E.k) (E.cs z)):=by
  cases hq:P.info? ty with
  | none=>simp [hq] at hti
  | some inf =>
    have hs:E.k=inf.size:=by simp [hq] at hti;omega
    simp [storeVar,sizeOf,typeInfo,hq,Value.cells,hs.symm,E.len,hst]
 obtain ⟨h1,h2⟩:=stored_cells hrow (E.cs z) (i * E.k)
 rw [putL_flat E L i z hi] at h1
 unfold Oper.wp execOp
 simp only [ho,hx,hy,Instr.storeAt,Instr.sureAddr,Sem.run_bind,Sem.run_pure,Result.andThen_ok,hrun]
 exact h _ h1 h2
theorem box_own {α:Type} {E:Enc α} {w:World} {B b:Nat} {t:TypeId} {a:α} (h:BoxE E w b t a) (hB:B≤b):w.ownsRow B t E.k (.slice (some ⟨b,0,none⟩) 1 1) 1 (flat E [a]) :=
 ⟨by rw [flat_length];simp,.inr ⟨b,1,_,rfl,hB,h,Nat.le_refl _,by unfold maxLen;omega,by simp [E.len],by rw [flat_one];simp [List.take_of_length_le,E.len]⟩⟩
theorem own_box {α:Type} {E:Enc α} {w:World} {B b c:Nat} {t:TypeId} {a:α} (h:w.ownsRow B t E.k (.slice (some ⟨b,0,none⟩) 1 c) 1 (flat E [a])):ElAt E w b 0 a:=fun j v hj=>by
 have:=h.cells (g:=b) rfl j v (by rw [flat_one];exact hj)
 rwa [add_off] at this
theorem wp_store_box {α:Type} {E:Enc α} {P:Program} {o:Oper} {a:Act} {w:World} {K:Act→World→Prop} {Q:Exit→Act→World→Prop} (ty:TypeId) (x y:Operand) (ho:o.op=.store ty x y)
 (g:Nat) (t:TypeId) (z0 z:α) (hx:a.eval x=.pointer (some ⟨g,0,none⟩)) (hy:a.eval y=.agg (E.cs z).toArray) (hg:BoxE E w g t z0) (hti:(P.info? ty).map (·.size)=some E.k)
 (h:∀ w',ElAt E w' g 0 z→w.grownBy w' (some g)→K (a.put o.dst undef) w'):o.wp P a w K Q :=
 wp_store_part ty x y ho g g 1 1 t [z0] 0 z (by rw [Nat.zero_mul];exact hx) hy (box_own hg (Nat.le_refl _)) rfl (by omega) hti (fun w' h1 h2=>h w' (own_box h1) h2)
end Go.Proofs.YtfhhihamndbcnaaGreatDoor.Fa
end
section
namespace Go.Proofs.YtfhhihamndbcnaaGreatDoor.Fa
open Go.RowKit
set_option maxHeartbeats 1000000 in
set_option maxRecDepth 100000 in
theorem compareString_any (a b:ByteArray) (w:World) :
 Calls Tryz.prog 138 #[.string a,.string b] w fun e w'=>e=.returned (.int .i64 (cmpB a b))∧w'=w:=by
 go_enter Tryz.func138,Tryz.ntmps138
 go_wp2
 rw [run_callFunc_extern Tryz.func167 (by kernel_rfl) (by kernel_rfl) (by kernel_rfl) (e:=Extern.BytealgCompare.compare) (by kernel_rfl),Lib.run_compareString]
 simp only [Result.andThen]
 rw [Oper.upon_value]
 go_wp2
 go_ret
 exact ⟨rfl,rfl⟩
set_option maxHeartbeats 1000000 in
theorem compare_any (a b:ByteArray) (w:World) :
 Calls Tryz.prog 106 #[.string a,.string b] w fun e w'=>e=.returned (.int .i64 (cmpB a b))∧w'=w:=by
 go_enter Tryz.func106,Tryz.ntmps106
 go_wp2_with (go_at_call 138;refine (compareString_any _ _ _).mono ?_;rintro e w' ⟨rfl,rfl⟩)
 go_ret
 exact ⟨rfl,rfl⟩
set_option maxHeartbeats 400000 in
theorem isNaN_any (x:Int) (w:World):Calls Tryz.prog 139 #[.int .i64 x] w fun e w'=>e=.returned (.bool false)∧w'=w:=by
 have hx:(x != x)=false:=by simp
 go_enter Tryz.func139,Tryz.ntmps139
 go_wp2
 go_ret
 exact ⟨rfl,rfl⟩
set_option maxHeartbeats 400000 in
theorem compareI_any (x y:Int) (w:World):Calls Tryz.prog 108 #[.int .i64 x,.int .i64 y] w fun e w'=>e=.returned (.int .i64 (cmpI x y))∧w'=w:=by
 rcases Int.lt_trichotomy x y with h | h | h
 ·have e:cmpI x y=-1:=by unfold cmpI;rw [if_pos h]
  rw [e]
  clear e
  go_enter Tryz.func108,Tryz.ntmps108
  go_wp2_with (go_at_call 139;refine (isNaN_any _ _).mono ?_;rintro e w' ⟨rfl,rfl⟩)
  go_ret
  exact ⟨rfl,rfl⟩
 ·subst h
  have e:cmpI x x=0:=by unfold cmpI;rw [if_neg (by omega),if_neg (by omega)]
  rw [e]
  clear e
  have h1:¬ x < x:=by omega
  go_enter Tryz.func108,Tryz.ntmps108
  go_wp2_with (go_at_call 139;refine (isNaN_any _ _).mono ?_;rintro e w' ⟨rfl,rfl⟩)
  go_ret
  exact ⟨rfl,rfl⟩
 ·have e:cmpI x y=1:=by unfold cmpI;rw [if_neg (by omega),if_pos h]
  rw [e]
  clear e
  have h1:¬ x < y:=by omega
  go_enter Tryz.func108,Tryz.ntmps108
  go_wp2_with (go_at_call 139;refine (isNaN_any _ _).mono ?_;rintro e w' ⟨rfl,rfl⟩)
  go_ret
  exact ⟨rfl,rfl⟩
def orL:List Int→Int
 | []=>0
 | a::r=>if a=0 then orL r else a
theorem orL_key (x y:Key):orL [cmpB x.e y.e,cmpB x.a y.a,cmpB x.f y.f,cmpB x.p y.p,cmpI x.m y.m]=cmpK x y:=by
 unfold cmpK
 simp only [orL,orI]
 (repeat' split) <;> first | rfl | omega
theorem orL_step (l:List Int) (k:Nat) (x:Int) (h:l[k]?=some x):orL (l.drop k)=if x=0 then orL (l.drop (k+1)) else x:=by
 rw [List.drop_eq_getElem?_toList_append]
 simp [h,orL]
set_option maxHeartbeats 1000000 in
theorem cmpOr_any (l:List Int) (n:Nat) (b:Nat) (w:World) (hn:l.length=n) (hb:n < 100) (hc:∀ (i:Nat) x,l[i]?=some x→w.cell? ⟨b,i,none⟩=some (.int .i64 x)) :
 Calls Tryz.prog 107 #[.slice (some ⟨b,0,none⟩) n n] w fun e w'=>e=.returned (.int .i64 (orL l))∧w'=w:=by
 have HC:=Lib.hid hc
 have HN:=Lib.hid hn
 clear hc hn
 obtain ⟨r,hr⟩:∃ r,orL l=r:=⟨_,rfl⟩
 rw [hr]
 have HR:=Lib.hid hr
 clear hr
 go_enter Tryz.func107,Tryz.ntmps107
 go_wp2
 go_loop [8] (fun i=>∃ k:Nat,k≤n∧i=.int .i64 k∧Hid (orL (l.drop k)=r)) (fun i=>n - (intOf i).toNat)
 case atStart=>exact ⟨0,Nat.zero_le _,rfl,HR⟩
 case round =>
  obtain ⟨k,hk,rfl,HK⟩:=hrel
  by_cases hlt:k < n
  ·obtain ⟨x,hx⟩:∃ x,l[k]?=some x:=⟨_,List.getElem?_eq_getElem (by rw [HN.out];exact hlt)⟩
   have c0:=HC.out k x hx
   have HS:=Lib.hid (orL_step l k x hx)
   clear hx
   by_cases h0:x=0
   ·subst h0
    go_wp2
    go_round
    case rel=>exact ⟨k+1,by omega,by go_num,by rw [←HK.out,HS.out,if_pos rfl];exact Lib.hid rfl⟩
    case measure=>simp [intOf];omega
   ·obtain rfl:x=r:=by rw [←HK.out,HS.out,if_neg h0]
    go_wp2
    go_ret
    exact ⟨rfl,rfl⟩
  ·obtain rfl:r=0:=by
    have e:l.drop k=[]:=List.drop_of_length_le (by rw [HN.out];omega)
    rw [←HK.out,e];rfl
   go_wp2
   go_ret
   exact ⟨rfl,rfl⟩
theorem five_new (w:World) (l:List Int) (t:TypeId) (a b c d e:Int) (h:l=[a,b,c,d,e]) (i:Nat) (x:Int) (hx:l[i]?=some x):(w.alloc (.cells #[.int .i64 a,.int .i64 b,.int .i64 c,.int .i64 d,.int .i64 e] t)).cell? ⟨w.heap.size,i,none⟩=some (.int .i64 x):=by
 rw [cell_of_row _ w.heap.size i _ t (0,0) (heap_alloc_new w _)]
 subst h
 match i,hx with
 | 0,hx=>simp at hx;subst hx;rfl
 | 1,hx=>simp at hx;subst hx;rfl
 | 2,hx=>simp at hx;subst hx;rfl
 | 3,hx=>simp at hx;subst hx;rfl
 | 4,hx=>simp at hx;subst hx;rfl
set_option maxHeartbeats 4000000 in
set_option maxRecDepth 100000 in
theorem cmp_any (x y:Key) (w:World) :
 Calls Tryz.prog 69 #[aggK x,aggK y] w fun e w'=>e=.returned (.int .i64 (cmpK x y))∧Grew w w':=by
 obtain ⟨r,hr⟩:∃ r,cmpK x y=r:=⟨_,rfl⟩
 have hA:=orL_key x y
 rw [hr] at hA ⊢
 have HA:=Lib.hid hA
 clear hr hA
 obtain ⟨W1,hW1⟩:∃ W1,(w.alloc (.cells #[.string x.e,.string x.a,.string x.f,.string x.p,.int .i64 x.m] 60)).alloc (.cells #[.string y.e,.string y.a,.string y.f,.string y.p,.int .i64 y.m] 60)=W1:=⟨_,rfl⟩
 obtain ⟨W2,hW2⟩:∃ W2,W1.drew=W2:=⟨_,rfl⟩
 have bx:BoxE encK W2 w.heap.size 60 x:=by
  rw [←hW2,←hW1]
  have hb:=(Below.refl (w.alloc (.cells #[.string x.e,.string x.a,.string x.f,.string x.p,.int .i64 x.m] 60)).heap.size (w.alloc (.cells #[.string x.e,.string x.a,.string x.f,.string x.p,.int .i64 x.m] 60))).alloc (Nat.le_refl _) (.cells #[.string y.e,.string y.a,.string y.f,.string y.p,.int .i64 y.m] 60)
  exact (BoxE.new encK w x 60).kept ⟨hb.os,hb.tape,hb.output,hb.size,hb.block⟩
 have bY:BoxE encK W2 (w.heap.size+1) 60 y:=by
  rw [←hW2,←hW1]
  have:=BoxE.new encK (w.alloc (.cells #[.string x.e,.string x.a,.string x.f,.string x.p,.int .i64 x.m] 60)) y 60
  rw [World.size_alloc] at this
  exact this
 have HG:Hid (Grew w W2):=Lib.hid (by
  rw [←hW2,←hW1]
  exact (((Grew.refl w).alloc _).alloc _).drew)
 obtain ⟨k0,k1,k2,k3,k4⟩:=key5 bx.at0
 obtain ⟨j0,j1,j2,j3,j4⟩:=key5 bY.at0
 simp only [Nat.zero_add] at k0 k1 k2 k3 k4 j0 j1 j2 j3 j4
 clear bx bY
 go_enter Tryz.func69,Tryz.ntmps69
 go_wp2_with fail
 refine wp_region_still_tail 25 (by kernel_rfl) (by kernel_rfl) ?_
 simp only [List.take_succ_cons,List.take_zero,List.drop_succ_cons,List.drop_zero]
 rw [show ({ heap:=W1.heap,tape:=W1.tape,drawn:=W1.drawn+1,os:=W1.os,output:=W1.output }:World)=W2 from hW2]
 clear hW1 hW2
 repeat still_step
 still_call (compare_any _ _ _)
 repeat still_step
 still_call (compare_any _ _ _)
 repeat still_step
 still_call (compare_any _ _ _)
 repeat still_step
 still_call (compare_any _ _ _)
 repeat still_step
 still_call (compareI_any _ _ _)
 refine wpStill_nil ?_
 go_wp2_with (go_at_call 107;refine (cmpOr_any _ 5 _ _ rfl (by decide) (five_new _ _ _ _ _ _ _ _ rfl)).mono ?_;rintro e w' ⟨rfl,rfl⟩)
 go_ret
 exact ⟨by rw [←HA.out];rfl,HG.out.alloc _⟩
set_option maxHeartbeats 1000000 in
theorem against_any (f:Fact) (k:Key) (w:World) :
 Calls Tryz.prog 43 #[aggF f,aggK k] w fun e w'=>e=.returned (.int .i64 (cmpK f.key k))∧Grew w w':=by
 obtain ⟨r,hr⟩:∃ r,cmpK f.key k=r:=⟨_,rfl⟩
 have HC:=Lib.hid (fun W=>cmp_any f.key k W)
 simp only [hr] at HC ⊢
 have HB:=Lib.hid (((Grew.refl w).alloc (.cells #[.string f.key.e,.string f.key.a,.string f.key.f,.string f.key.p,.int .i64 f.key.m,.int .i64 f.amt] 62)).alloc (.cells #[.string k.e,.string k.a,.string k.f,.string k.p,.int .i64 k.m] 60))
 go_enter Tryz.func43,Tryz.ntmps43
 go_wp2_with (go_at_call 69;refine (HC.out _).mono ?_;rintro e w' ⟨rfl,hG⟩)
 go_ret
 exact ⟨rfl,HB.out.trans hG⟩
set_option maxHeartbeats 1000000 in
theorem closure_any (f g:Fact) (w:World) :
 Calls Tryz.prog 104 #[aggF f,aggF g] w fun e w'=>e=.returned (.int .i64 (cmpK f.key g.key))∧Grew w w':=by
 obtain ⟨r,hr⟩:∃ r,cmpK f.key g.key=r:=⟨_,rfl⟩
 have HC:=Lib.hid (fun W=>against_any f g.key W)
 simp only [hr] at HC ⊢
 have HB:=Lib.hid (((Grew.refl w).alloc (.cells #[.string f.key.e,.string f.key.a,.string f.key.f,.string f.key.p,.int .i64 f.key.m,.int .i64 f.amt] 62)).alloc (.cells #[.string g.key.e,.string g.key.a,.string g.key.f,.string g.key.p,.int .i64 g.key.m,.int .i64 g.amt] 62))
 go_enter Tryz.func104,Tryz.ntmps104
 go_wp2_with (go_at_call 43;refine (HC.out _).mono ?_;rintro e w' ⟨rfl,hG⟩)
 go_ret
 exact ⟨rfl,HB.out.trans hG⟩
end Go.Proofs.YtfhhihamndbcnaaGreatDoor.Fa
end
section
namespace Go.Proofs.YtfhhihamndbcnaaGreatDoor.Fa
open Go.RowKit
theorem gen_info:(Tryz.prog.info? 62).map (fun i=>(i.zero,i.size,i.bytes))=some (some (.agg #[.string ⟨#[]⟩,.string ⟨#[]⟩,.string ⟨#[]⟩,.string ⟨#[]⟩,.int .i64 0,.int .i64 0]),6,80):=by kernel_rfl
theorem gen_length (L:List Fact):(flat encF L).length=L.length * 6:=flat_length L
theorem gen_take (L:List Fact) (k:Nat):flat encF (L.take k)=(flat encF L).take (k * 6):=flat_take L k
theorem gen_drop (L:List Fact) (k:Nat):flat encF (L.drop k)=(flat encF L).drop (k * 6):=flat_drop L k
def RowTold (w:World) (L:List Fact) (e:Ending) (w':World):Prop:=∃ v,e=.returned v∧w'.ownsRow w.heap.size 62 6 v L.length (flat encF L)∧Below w.heap.size w w'
set_option maxRecDepth 100000 in
set_option maxHeartbeats 2000000 in
theorem clone_any (v:Value) (L:List Fact) (w:World) (h:ElsV encF w v L) (hL:L.length≤1000) :
 Calls Tryz.prog 102 #[v] w (RowTold w L):=by
 have HV:=Lib.hid h
 obtain ⟨p,c,rfl,hcap,hm,hp,hc⟩:=h
 have hq:∀ (w:World) (a:Option Addr) (n c n' c':Nat),(binOp .eql 41 (.slice a n c) (.slice none n' c')).run Tryz.prog w=.ok (.bool a.isNone) w:=fun w a n c n' c'=>Lib.run_eql_slice_nil w _ _ a n c n' c' Tryz.underlying41
 obtain ⟨i0,hi,hz0,hz1,hz2⟩:=info_parts gen_info
 have HI:=Lib.hid (And.intro hi (And.intro hz0 (And.intro hz1 hz2)))
 clear hi hz0 hz1 hz2 hc
 unfold maxLen at hm
 cases p with
 | none =>
   have h0:=hp rfl
   have:L=[]:=List.eq_nil_of_length_eq_zero (by omega)
   subst this
   clear HV hp
   go_enter Tryz.func102,Tryz.ntmps102
   go_wp2
   go_ret
   exact ⟨_,rfl,World.ownsRow_nil _ _ _ _,Below.refl _ _⟩
 | some ad =>
   have HC:Hid (∀ (j:Nat) u,(flat encF L)[j]?=some u→w.cell? (ad.add j)=some u):=Lib.hid (fun j u hj=>by
    by_cases hne:L=[]
    ·subst hne;simp [flat] at hj
    ·obtain ⟨b,o,e,_,hcell⟩:=HV.out.cells hne
     cases e
     rw [add_off];exact hcell j u hj)
   obtain ⟨n,hn⟩:∃ n,L.length=n:=⟨_,rfl⟩
   have HN:=Lib.hid hn
   rw [hn] at hcap hL ⊢
   clear hn hp HV
   go_enter Tryz.func102,Tryz.ntmps102
   go_wp2_with (at_builtin;refine wpList_append_own _ rfl _ _ 41 rfl w.heap.size 62 i0 (.agg #[.string ⟨#[]⟩,.string ⟨#[]⟩,.string ⟨#[]⟩,.string ⟨#[]⟩,.int .i64 0,.int .i64 0]) 6 80 Tryz.underlying41 HI.out.1 HI.out.2.1 HI.out.2.2.1 HI.out.2.2.2 rfl (by decide) _ _ _ rfl (World.ownsRow_made w #[] 0 (Nat.le_refl _) (Nat.zero_le _) (by simp)) ad n c (flat encF L) rfl ?qc1 ?qc2 ?qc3 ?qc4 ?qc5 ?qc6 ?_)
   case qc1=>rw [gen_length,HN.out]
   case qc2=>exact fun j u hj=>Lib.cell?_alloc_some _ (HC.out j u hj)
   case qc3=>exact flat_ones L
   case qc4=>rw [Nat.zero_add];unfold maxLen;omega
   case qc5=>rw [Nat.zero_add];omega
   case qc6=>simp
   intro v' w1 hown hgrow hnil
   have HOW:Hid (w1.ownsRow w.heap.size 62 6 v' L.length (flat encF L)):=Lib.hid (by rw [HN.out];simpa using hown)
   have HBL:=Lib.hid (((Below.refl _ w).alloc (Nat.le_refl _) (.cells #[] 62)).grown hgrow (by simp) (by intro k hk;simp [Value.ownBlock] at hk;omega))
   clear hown hgrow hnil
   go_wp2
   go_ret
   exact ⟨v',rfl,HOW.out,HBL.out⟩
end Go.Proofs.YtfhhihamndbcnaaGreatDoor.Fa
end
section
namespace Go.Proofs.YtfhhihamndbcnaaGreatDoor.Fa
open Go.RowKit
def eqK (a b:Key):Bool:=decide (a=b)
def eqF (a b:Fact):Bool:=decide (a=b)
theorem toList_inj {x y:ByteArray} (h:x.toList=y.toList):x=y:=data_inj' (by rw [←ByteArray.toList_eq,←ByteArray.toList_eq];exact h)
def eqKs (a b:Key):Bool:=a.e.toList==b.e.toList && (a.a.toList==b.a.toList && (a.f.toList==b.f.toList && (a.p.toList==b.p.toList && a.m==b.m)))
theorem eqKs_eq (a b:Key):eqKs a b=eqK a b:=by
 unfold eqKs eqK
 rw [Bool.eq_iff_iff]
 simp only [Bool.and_eq_true,beq_iff_eq,decide_eq_true_eq]
 constructor
 ·rintro ⟨h0,h1,h2,h3,h4⟩
  cases a;cases b
  simp only at h0 h1 h2 h3 h4
  rw [toList_inj h0,toList_inj h1,toList_inj h2,toList_inj h3,h4]
 ·rintro rfl;exact ⟨rfl,rfl,rfl,rfl,rfl⟩
theorem eqF_eq (a b:Fact):eqF a b=(eqK a.key b.key && a.amt==b.amt):=by
 unfold eqF eqK
 rw [Bool.eq_iff_iff]
 simp only [Bool.and_eq_true,beq_iff_eq,decide_eq_true_eq]
 constructor
 ·rintro rfl;exact ⟨rfl,rfl⟩
 ·rintro ⟨h0,h1⟩
  cases a;cases b
  simp only at h0 h1
  rw [h0,h1]
theorem eql_key (a b:Key) (w:World):Sem.run Tryz.prog (binOp .eql 60 (aggK a) (aggK b)) w=.ok (.bool (eqK a b)) w:=by
 have hS:Tryz.prog.underlying 60=some (.struct (Tryz.prog.fieldsOf 60)):=by kernel_rfl
 have hp:Tryz.prog.stoodInHeld 60=false:=by kernel_rfl
 rw [run_eql_struct,show (10000:Nat)=9999+1 from rfl,run_equalIn_agg w 9999 60 _ _ hS hp,←eqKs_eq]
 simp only [Program.fieldsOf,Tryz.underlying60]
 go_simp
 unfold eqKs
 by_cases h0:a.e.toList=b.e.toList
 ·by_cases h1:a.a.toList=b.a.toList
  ·by_cases h2:a.f.toList=b.f.toList
   ·by_cases h3:a.p.toList=b.p.toList
    ·by_cases h4:a.m=b.m <;> simp [h0,h1,h2,h3,h4]
    ·simp [h0,h1,h2,h3]
   ·simp [h0,h1,h2]
  ·simp [h0,h1]
 ·simp [h0]
theorem eql_rkey (a b:Key) (w:World):Sem.run Tryz.prog (binOp .eql 74 (aggK a) (aggK b)) w=.ok (.bool (eqK a b)) w:=by
 have hS:Tryz.prog.underlying 74=some (.struct (Tryz.prog.fieldsOf 74)):=by kernel_rfl
 have hp:Tryz.prog.stoodInHeld 74=false:=by kernel_rfl
 rw [run_eql_struct,show (10000:Nat)=9999+1 from rfl,run_equalIn_agg w 9999 74 _ _ hS hp,←eqKs_eq]
 simp only [Program.fieldsOf,Tryz.underlying74]
 go_simp
 unfold eqKs
 by_cases h0:a.e.toList=b.e.toList
 ·by_cases h1:a.a.toList=b.a.toList
  ·by_cases h2:a.f.toList=b.f.toList
   ·by_cases h3:a.p.toList=b.p.toList
    ·by_cases h4:a.m=b.m <;> simp [h0,h1,h2,h3,h4]
    ·simp [h0,h1,h2,h3]
   ·simp [h0,h1,h2]
  ·simp [h0,h1]
 ·simp [h0]
theorem guard_key:Tryz.prog.eqGuardType Tryz.prog.depth 60=false:=by kernel_rfl
theorem guard_rkey:Tryz.prog.eqGuardType Tryz.prog.depth 74=false:=by kernel_rfl
end Go.Proofs.YtfhhihamndbcnaaGreatDoor.Fa
end
section
namespace Go.Proofs.YtfhhihamndbcnaaGreatDoor.Fa
open Go.RowKit
theorem infoR:InfoE Tryz.prog 22 79 encF:=.of (z:=.agg #[.string ⟨#[]⟩,.string ⟨#[]⟩,.string ⟨#[]⟩,.string ⟨#[]⟩,.int .i64 0,.int .i64 0]) (n:=80) Tryz.underlying22 (by kernel_rfl) rfl (by decide)
def smallB (x:Fact):Bool:=decide (x.amt≤4503599627370496) && decide (-4503599627370496≤x.amt)
def smallL (c:List Fact):Bool:=c.all smallB
def sameL (a b:List Fact):Bool:=decide (a=b)
end Go.Proofs.YtfhhihamndbcnaaGreatDoor.Fa
end
