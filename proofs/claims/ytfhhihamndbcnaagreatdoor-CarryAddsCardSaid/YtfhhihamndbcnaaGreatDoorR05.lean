/- Mem LexMem Els Past ChartNew -/
import Derived.BigQuiet
import Derived.Deep.Draws
import Derived.Deep.WholeRow
import Derived.Laws.AppendOwnNone
import Derived.Laws.Tables
import Derived.Lib.Hide
import Derived.RangeFuncBox
import Derived.WalkSpells
import Derived.Test.YtfhhihamndbcnaaGreatDoorR02
section
namespace Go.Proofs.YtfhhihamndbcnaaGreatDoor
open Go.RowKit
theorem below_grown {B:Nat} {w wr w1:World} {e:TypeId} {size n:Nat} {v:Value} {xs:List Value} (hnx:Below B w wr) (hB:B≤wr.heap.size) (hown:wr.ownsRow B e size v n xs) (hg:wr.grownBy w1 v.ownBlock):Below B w w1 :=
 hnx.grown hg hB (fun j hj=>(hown.lt j hj).1)
structure RowIs (k:IntKind) (w:World) (a:Option Addr) (n:Nat) (l:List Int):Prop where
 len:l.length=n
 max:n≤maxLen
 cell:∀ i,i < n→∃ b o,a=some ⟨b,o,none⟩∧w.cell? ⟨b,o+i,none⟩=some (.int k (l.getD i 0))
theorem getD_at (l:List Int) (k:Nat) (hk:k < l.length):l.getD k 0=l[k]:=by simp [List.getD,hk]
theorem RowIs.keep {k:IntKind} {w w':World} {B:Nat} {a:Option Addr} {n:Nat} {l:List Int} (h:RowIs k w a n l) (hb:Below B w w') (hB:w.heap.size≤B):RowIs k w' a n l :=
 ⟨h.len,h.max,fun i hi=>by
  obtain ⟨b,o,e,hc⟩:=h.cell i hi
  exact ⟨b,o,e,(hb.cell (Nat.lt_of_lt_of_le (World.block_lt_of_cell? w _ hc) hB)).trans hc⟩⟩
section
variable {P:Program} {w:World} {ops:Array Oper} {rest:List Oper} {o:Oper} {a:Act} {Q:Exit→Act→World→Prop}
end
end Go.Proofs.YtfhhihamndbcnaaGreatDoor
end
section
namespace Go.Proofs.YtfhhihamndbcnaaGreatDoor
open Go.RowKit
def StrsV (w:World) (v:Value) (ws:List ByteArray):Prop :=
 ∃ a c,v=.slice a ws.length c∧ws.length≤c∧ws.length≤maxLen∧∀ i x,ws[i]?=some x→∃ b o,a=some ⟨b,o,none⟩∧w.cell? ⟨b,o+i,none⟩=some (.string x)
def LinesV (w:World) (v:Value) (L:List (Int × List ByteArray)):Prop :=
 ∃ a c,v=.slice a L.length c∧L.length≤maxLen∧∀ i x,L[i]?=some x→∃ b o u,a=some ⟨b,o,none⟩∧w.cell? ⟨b,o+i * 2,none⟩=some (.int .i64 x.1)∧w.cell? ⟨b,o+i * 2+1,none⟩=some u∧StrsV w u x.2
theorem StrsV.nil (w:World):StrsV w (.slice none 0 0) []:=⟨none,0,rfl,by simp,by simp,fun i x h=>by simp at h⟩
theorem LinesV.nil (w:World):LinesV w (.slice none 0 0) []:=⟨none,0,rfl,by simp,fun i x h=>by simp at h⟩
theorem StrsV.keep {w w':World} {v:Value} {ws:List ByteArray} (h:StrsV w v ws) (hb:Below w.heap.size w w'):StrsV w' v ws:=by
 obtain ⟨a,c,e,h1,h2,hc⟩:=h
 exact ⟨a,c,e,h1,h2,fun i x hx=>by
  obtain ⟨b,o,ea,hx'⟩:=hc i x hx
  exact ⟨b,o,ea,(hb.cell (World.block_lt_of_cell? w _ hx')).trans hx'⟩⟩
theorem add_off (b o i:Nat):(⟨b,o,none⟩:Addr).add i=⟨b,o+i,none⟩:=by
 by_cases h0:i=0
 ·subst h0;simp [Addr.add]
 ·simp [Addr.add,h0]
def flatL (LV:List (Int × Value)):List Value:=LV.flatMap fun x=>[.int .i64 x.1,x.2]
theorem flatL_snoc (LV:List (Int × Value)) (n:Int) (u:Value):flatL (LV++[(n,u)])=flatL LV++[.int .i64 n,u]:=by simp [flatL]
theorem flatL_at:∀ (LV:List (Int × Value)) (i:Nat) (x:Int × Value),LV[i]?=some x→(flatL LV)[i * 2]?=some (.int .i64 x.1)∧(flatL LV)[i * 2+1]?=some x.2
 | [],i,x,h=>by simp at h
 | y::r,0,x,h=>by
   simp at h
   subst h
   exact ⟨rfl,rfl⟩
 | y::r,i+1,x,h=>by
   have ih:=flatL_at r i x (by simpa using h)
   have e:flatL (y::r)=.int .i64 y.1::y.2::flatL r:=rfl
   rw [e,show (i+1) * 2=i * 2+1+1 by omega,show i * 2+1+1+1=(i * 2+1)+1+1 by omega]
   simpa using ih
theorem row_apart {W:World} {B B':Nat} {e e':TypeId} {s s':Nat} {v v':Value} {n n':Nat} {xs xs':List Value} (h:W.ownsRow B e s v n xs) (h':W.ownsRow B' e' s' v' n' xs') (hne:e≠e'):v'.ownBlock=none∨v'.ownBlock≠v.ownBlock:=by
 rcases h'.2 with ⟨rfl,_⟩ | ⟨g',cap',cur',rfl,_,hg',_⟩
 ·exact .inl rfl
 ·refine .inr fun e0=>?_
  rcases h.2 with ⟨rfl,_⟩ | ⟨g,cap,cur,rfl,_,hg,_⟩
  ·simp [Value.ownBlock] at e0
  ·obtain rfl:g'=g:=by simpa [Value.ownBlock] using e0
   rw [hg] at hg'
   simp at hg'
   exact hne hg'.2
theorem row_uncells {X Y:World} {B:Nat} {e:TypeId} {s:Nat} {v:Value} {n:Nat} {xs:List Value} {row:Option Nat} (h:X.ownsRow B e s v n xs) (hg:X.grownBy Y row) (hr:∀ r,row=some r→∃ o:Obj,X.heap[r]?=some o∧o.isCells=false):Y.ownsRow B e s v n xs:=by
 refine h.kept hg ?_
 rcases h.2 with ⟨rfl,_⟩ | ⟨g,cap,cur,rfl,_,hgb,_⟩
 ·exact .inl rfl
 ·refine .inr fun e'=>?_
  obtain ⟨o,ho,hc⟩:=hr g (by simpa [Value.ownBlock] using e'.symm)
  rw [hgb] at ho;cases ho;cases hc
theorem row_below {X Y:World} {B:Nat} {e:TypeId} {s:Nat} {v:Value} {n:Nat} {xs:List Value} (h:X.ownsRow B e s v n xs) (hb:Below X.heap.size X Y):Y.ownsRow B e s v n xs :=
 h.kept (row:=none) ⟨hb.os,hb.tape,hb.output,hb.size,fun j hj _=>hb.block j hj⟩ (by
  cases v.ownBlock with
  | none=>exact .inl rfl
  | some g=>exact .inr (by simp))
theorem row_base {X:World} {B B':Nat} {e:TypeId} {s:Nat} {v:Value} {n:Nat} {xs:List Value} (h:X.ownsRow B e s v n xs) (hB:B'≤B):X.ownsRow B' e s v n xs:=by
 refine ⟨h.1,?_⟩
 rcases h.2 with h0 | ⟨g,cap,cur,hv,hb,rest⟩
 ·exact .inl h0
 ·exact .inr ⟨g,cap,cur,hv,by omega,rest⟩
theorem boxed_below {X Y:World} {B:Nat} {t:TypeId} {v:Value} (h:Boxed X B t v) (hb:Below X.heap.size X Y):Boxed Y B t v:=(hb.block B h.lt).trans h
theorem keepsFrom_below {X Y:World} (B:Nat) (hb:Below X.heap.size X Y):KeepsFrom B X Y :=
 ⟨hb.size,fun k _ _ h _=>(hb.block k (Array.getElem?_eq_some_iff.1 h).1).trans h⟩
def WordsOwn (W:World) (B:Nat) (e:TypeId) (LV:List (Int × Value)) (L:List (Int × List ByteArray)):Prop :=
 LV.length=L.length∧∀ (i:Nat) (x:Int × Value) (y:Int × List ByteArray),LV[i]?=some x→L[i]?=some y→x.1=y.1∧W.ownsRow B e 1 x.2 y.2.length (y.2.map Value.string)
theorem WordsOwn.mono {W W':World} {B:Nat} {e:TypeId} {LV:List (Int × Value)} {L:List (Int × List ByteArray)} (h:WordsOwn W B e LV L) (hk:∀ (u:Value) (n:Nat) (xs:List Value),W.ownsRow B e 1 u n xs→W'.ownsRow B e 1 u n xs):WordsOwn W' B e LV L :=
 ⟨h.1,fun i x y hx hy=>⟨(h.2 i x y hx hy).1,hk _ _ _ (h.2 i x y hx hy).2⟩⟩
theorem WordsOwn.nil (W:World) (B:Nat) (e:TypeId):WordsOwn W B e [] []:=⟨rfl,fun i x y h=>by simp at h⟩
theorem WordsOwn.snoc {W:World} {B:Nat} {e:TypeId} {LV:List (Int × Value)} {L:List (Int × List ByteArray)} (h:WordsOwn W B e LV L) (n:Int) (u:Value) (ws:List ByteArray) (hu:W.ownsRow B e 1 u ws.length (ws.map Value.string)):WordsOwn W B e (LV++[(n,u)]) (L++[(n,ws)]):=by
 refine ⟨by simp [h.1],fun i x y hx hy=>?_⟩
 by_cases hi:i < LV.length
 ·rw [List.getElem?_append_left hi] at hx
  rw [List.getElem?_append_left (by rw [←h.1];exact hi)] at hy
  exact h.2 i x y hx hy
 ·have hi':i=LV.length:=by
   have:=(List.getElem?_eq_some_iff.1 hx).1
   simp at this
   omega
  subst hi'
  simp at hx
  rw [h.1] at hy
  simp at hy
  subst hx hy
  exact ⟨rfl,hu⟩
theorem strs_of_own {W:World} {B:Nat} {e:TypeId} {u:Value} {ws:List ByteArray} (h:W.ownsRow B e 1 u ws.length (ws.map Value.string)):StrsV W u ws:=by
 have hw:=h
 rcases h.2 with ⟨rfl,hn⟩ | ⟨g,cap,cur,rfl,_,_,hnc,hcm,_⟩
 ·have:ws=[]:=List.eq_nil_of_length_eq_zero hn
  subst this
  exact StrsV.nil W
 ·refine ⟨_,cap,rfl,hnc,by omega,fun i x hx=>⟨g,0,rfl,?_⟩⟩
  have:=hw.cells (g:=g) rfl i (.string x) (by simp [hx])
  rwa [add_off] at this
def WordsIn (W:World) (LV:List (Int × Value)) (L:List (Int × List ByteArray)):Prop :=
 LV.length=L.length∧∀ (i:Nat) (x:Int × Value) (y:Int × List ByteArray),LV[i]?=some x→L[i]?=some y→x.1=y.1∧StrsV W x.2 y.2
theorem lines_of_in {W:World} {B:Nat} {e:TypeId} {v:Value} {LV:List (Int × Value)} {L:List (Int × List ByteArray)} (h:W.ownsRow B e 2 v LV.length (flatL LV)) (hw:WordsIn W LV L):LinesV W v L:=by
 have h0:=h
 rcases h.2 with ⟨rfl,hn⟩ | ⟨g,cap,cur,rfl,_,_,hnc,hcm,_⟩
 ·have:L=[]:=List.eq_nil_of_length_eq_zero (by rw [←hw.1];exact hn)
  subst this
  exact LinesV.nil W
 ·rw [hw.1]
  refine ⟨_,cap,rfl,by rw [←hw.1];omega,fun i y hy=>?_⟩
  have hi:i < LV.length:=by rw [hw.1];exact (List.getElem?_eq_some_iff.1 hy).1
  have hx:LV[i]?=some LV[i]:=List.getElem?_eq_getElem hi
  obtain ⟨e1,e2⟩:=hw.2 i _ y hx hy
  obtain ⟨f1,f2⟩:=flatL_at LV i _ hx
  have c1:=h0.cells (g:=g) rfl _ _ f1
  have c2:=h0.cells (g:=g) rfl _ _ f2
  rw [add_off] at c1 c2
  exact ⟨g,0,_,rfl,by rw [←e1];exact c1,by rw [Nat.add_assoc];exact c2,e2⟩
theorem WordsOwn.isIn {W:World} {B:Nat} {e:TypeId} {LV:List (Int × Value)} {L:List (Int × List ByteArray)} (h:WordsOwn W B e LV L):WordsIn W LV L :=
 ⟨h.1,fun i x y hx hy=>⟨(h.2 i x y hx hy).1,strs_of_own (h.2 i x y hx hy).2⟩⟩
theorem strs_new (w:World) (ws:List ByteArray) (t:TypeId) (hl:ws.length≤maxLen):StrsV (w.alloc (.cells (ws.map Value.string).toArray t)) (.slice (some ⟨w.heap.size,0,none⟩) ws.length ws.length) ws :=
 ⟨_,_,rfl,Nat.le_refl _,hl,fun i x hx=>⟨w.heap.size,0,rfl,by
  rw [Nat.zero_add,cell_of_row _ w.heap.size i _ t (0,0) (heap_alloc_new w _)]
  simp [hx]⟩⟩
theorem take_at {α:Type} (L:List α) (k:Nat) (h:k < L.length):L.take (k+1)=L.take k++[L[k]]:=List.take_succ_eq_append_getElem h
end Go.Proofs.YtfhhihamndbcnaaGreatDoor
end
section
namespace Go.Proofs.YtfhhihamndbcnaaGreatDoor
open Go.RowKit
structure Enc (α:Type) where
 cs:α→List Value
 k:Nat
 len:∀ a,(cs a).length=k
 pos:0 < k
 one:∀ a,∀ v∈cs a,v.oneCell'=true
section
variable {α:Type} {E:Enc α}
def ElAt (E:Enc α) (w:World) (b o:Nat) (a:α):Prop:=∀ (j:Nat) v,(E.cs a)[j]?=some v→w.cell? ⟨b,o+j,none⟩=some v
theorem ElAt.lt {w:World} {b o:Nat} {a:α} (h:ElAt E w b o a):b < w.heap.size:=by
 have h0:0 < (E.cs a).length:=by rw [E.len];exact E.pos
 exact World.block_lt_of_cell? w _ (h 0 _ (List.getElem?_eq_getElem h0))
theorem ElAt.keep {w w':World} {b o B:Nat} {a:α} (h:ElAt E w b o a) (hb:Below B w w') (hB:b < B):ElAt E w' b o a :=
 fun j v hj=>(hb.cell (p:=⟨b,_,none⟩) hB).trans (h j v hj)
def ElsV (E:Enc α) (w:World) (v:Value) (L:List α):Prop :=
 ∃ p c,v=.slice p L.length c∧L.length≤c∧c≤maxLen∧(p=none→c=0)∧∀ (i:Nat) (x:α),L[i]?=some x→∃ b o,p=some ⟨b,o,none⟩∧ElAt E w b (o+i * E.k) x
theorem ElsV.nil (w:World):ElsV E w (.slice none 0 0) []:=⟨none,0,rfl,by simp,by simp,fun _=>rfl,fun i x h=>by simp at h⟩
theorem ElsV.keep {w w':World} {v:Value} {L:List α} (h:ElsV E w v L) (hb:Below w.heap.size w w'):ElsV E w' v L:=by
 obtain ⟨a,c,e,h1,h2,h3,hc⟩:=h
 exact ⟨a,c,e,h1,h2,h3,fun i x hx=>by
  obtain ⟨b,o,ea,hx'⟩:=hc i x hx
  exact ⟨b,o,ea,hx'.keep hb hx'.lt⟩⟩
def flat (E:Enc α) (L:List α):List Value:=L.flatMap E.cs
theorem flat_cons (a:α) (L:List α):flat E (a::L)=E.cs a++flat E L:=rfl
theorem flat_one (a:α):flat E [a]=E.cs a:=by simp [flat]
theorem flat_append (L M:List α):flat E (L++M)=flat E L++flat E M:=by simp [flat]
theorem flat_length (L:List α):(flat E L).length=L.length * E.k:=by
 induction L with
 | nil=>simp [flat]
 | cons a L ih=>rw [flat_cons,List.length_append,ih,E.len,List.length_cons,Nat.succ_mul];omega
theorem flat_at:∀ (L:List α) (i:Nat) (x:α),L[i]?=some x→∀ (j:Nat) v,(E.cs x)[j]?=some v→(flat E L)[i * E.k+j]?=some v
 | [],i,x,h=>by simp at h
 | y::L,0,x,h=>by
   simp at h
   subst h
   intro j v hj
   have:j < (E.cs y).length:=(List.getElem?_eq_some_iff.1 hj).1
   rw [flat_cons,Nat.zero_mul,Nat.zero_add,List.getElem?_append_left this];exact hj
 | y::L,i+1,x,h=>fun j v hj=>by
   have ih:=flat_at L i x (by simpa using h) j v hj
   rw [flat_cons,show (i+1) * E.k+j=(E.cs y).length+(i * E.k+j) by rw [E.len,Nat.succ_mul];omega,List.getElem?_append_right (by omega)]
   simpa using ih
theorem flat_of {L:List α} {k:Nat} {v:Value} (h:(flat E L)[k]?=some v):∃ x,L[k / E.k]?=some x∧(E.cs x)[k % E.k]?=some v:=by
 have hk:k < L.length * E.k:=by rw [←flat_length];exact (List.getElem?_eq_some_iff.1 h).1
 have hi:k / E.k < L.length:=Nat.div_lt_of_lt_mul (by rw [Nat.mul_comm];exact hk)
 refine ⟨L[k / E.k],List.getElem?_eq_getElem hi,?_⟩
 have hj:k % E.k < (E.cs L[k / E.k]).length:=by rw [E.len];exact Nat.mod_lt _ E.pos
 have:=flat_at L (k / E.k) _ (List.getElem?_eq_getElem hi) (k % E.k) _ (List.getElem?_eq_getElem hj)
 rw [Nat.mul_comm,Nat.div_add_mod,h] at this
 rw [List.getElem?_eq_getElem hj,this]
theorem flat_ones (L:List α):∀ v∈flat E L,v.oneCell'=true:=by
 intro v hv
 obtain ⟨a,_,ha⟩:=List.mem_flatMap.1 hv
 exact E.one a v ha
theorem flat_take (L:List α) (k:Nat):flat E (L.take k)=(flat E L).take (k * E.k):=by
 induction L generalizing k with
 | nil=>simp [flat]
 | cons a L ih =>
   cases k with
   | zero=>simp [flat]
   | succ k =>
     rw [List.take_succ_cons,flat_cons,flat_cons,ih,List.take_append,E.len,show (k+1) * E.k - E.k=k * E.k by rw [Nat.succ_mul];omega,List.take_of_length_le (l:=E.cs a) (by rw [E.len,Nat.succ_mul];omega)]
theorem flat_drop (L:List α) (k:Nat):flat E (L.drop k)=(flat E L).drop (k * E.k):=by
 induction L generalizing k with
 | nil=>simp [flat]
 | cons a L ih =>
   cases k with
   | zero=>simp
   | succ k =>
     rw [List.drop_succ_cons,flat_cons,ih,List.drop_append,E.len,show (k+1) * E.k - E.k=k * E.k by rw [Nat.succ_mul];omega,List.drop_of_length_le (l:=E.cs a) (by rw [E.len,Nat.succ_mul];omega),List.nil_append]
theorem ElsV.cells {w:World} {p:Option Addr} {n c:Nat} {L:List α} (h:ElsV E w (.slice p n c) L) (hL:L≠[]):∃ b o,p=some ⟨b,o,none⟩∧b < w.heap.size∧∀ (j:Nat) v,(flat E L)[j]?=some v→w.cell? ⟨b,o+j,none⟩=some v:=by
 obtain ⟨p',c',e,_,_,_,hc⟩:=h
 cases e
 cases L with
 | nil=>exact absurd rfl hL
 | cons a L =>
   obtain ⟨b,o,rfl,h0⟩:=hc 0 a rfl
   refine ⟨b,o,rfl,h0.lt,fun j v hj=>?_⟩
   obtain ⟨x,hx,hv⟩:=flat_of hj
   obtain ⟨b',o',e',h1⟩:=hc _ x hx
   cases e'
   have:=h1 _ v hv
   rwa [Nat.add_assoc,Nat.mul_comm,Nat.div_add_mod] at this
theorem els_of_own {w:World} {B:Nat} {e:TypeId} {v:Value} {L:List α} (h:w.ownsRow B e E.k v L.length (flat E L)):ElsV E w v L:=by
 have h0:=h
 rcases h.2 with ⟨rfl,hn⟩ | ⟨g,cap,cur,rfl,_,_,hnc,hcm,_⟩
 ·have:L=[]:=List.eq_nil_of_length_eq_zero hn
  subst this
  exact ElsV.nil w
 ·refine ⟨_,cap,rfl,hnc,hcm,(fun e=>by cases e),fun i x hx=>⟨g,0,rfl,fun j u hj=>?_⟩⟩
  have:=h0.cells (g:=g) rfl _ _ (flat_at L i x hx j u hj)
  rwa [add_off,←Nat.add_assoc] at this
def BoxE (E:Enc α) (w:World) (b:Nat) (t:TypeId) (a:α):Prop:=w.heap[b]?=some (.cells (E.cs a).toArray t (0,0))
theorem BoxE.lt {w:World} {b:Nat} {t:TypeId} {a:α} (h:BoxE E w b t a):b < w.heap.size:=(Array.getElem?_eq_some_iff.1 h).1
theorem BoxE.keep {w w':World} {b B:Nat} {t:TypeId} {a:α} (h:BoxE E w b t a) (hb:Below B w w') (hB:b < B):BoxE E w' b t a:=(hb.block b hB).trans h
theorem BoxE.kept {w w':World} {b:Nat} {t:TypeId} {a:α} (h:BoxE E w b t a) (hb:Below w.heap.size w w'):BoxE E w' b t a:=h.keep hb h.lt
theorem BoxE.new (E:Enc α) (w:World) (a:α) (t:TypeId):BoxE E (w.alloc (.cells (E.cs a).toArray t)) w.heap.size t a:=heap_alloc_new w _
theorem BoxE.at0 {w:World} {b:Nat} {t:TypeId} {a:α} (h:BoxE E w b t a):ElAt E w b 0 a :=
 fun j v hj=>by rw [Nat.zero_add,cell_of_row _ b j _ t (0,0) h];simpa using hj
theorem grownBy_set (w:World) (g:Nat) (cs:Array Value):w.grownBy (w.setRow g cs) (some g) :=
 ⟨rfl,rfl,rfl,by simp [World.setRow],fun k _ hk=>setRow_other w g k cs (fun e=>hk (by rw [e]))⟩
theorem wpList_store_el {P:Program} {ops:Array Oper} {rest:List Oper} {o:Oper} {act:Act} {w:World} {Q:Exit→Act→World→Prop} (hgd:o.guard=none) (ty:TypeId) (x y:Operand) (ho:o.op=.store ty x y)
 (g:Nat) (z a:α) (t:TypeId) (hx:act.eval x=.pointer (some ⟨g,0,none⟩)) (hy:act.eval y=.agg (E.cs a).toArray) (hg:BoxE E w g t z) (hi:(P.info? ty).map (·.size)=some E.k)
 (h:∀ w',BoxE E w' g t a→w.grownBy w' (some g)→wpList P ops Q rest (act.put o.dst undef) w'):wpList P ops Q (o::rest) act w :=
 wpList_store_row hgd ty x y ho g _ hx hy t _ hg (by rw [hi];simp [E.len]) (by simp [E.len]) (by simp only [List.all_toArray,List.all_eq_true];exact fun v hv=>E.one a v hv) (h _ (setRow_heap w g _ _ t _ hg) (grownBy_set w g _))
theorem els_new (E:Enc α) (w:World) (L:List α) (t:TypeId) (hl:L.length≤maxLen):ElsV E (w.alloc (.cells (flat E L).toArray t)) (.slice (some ⟨w.heap.size,0,none⟩) L.length L.length) L :=
 ⟨_,_,rfl,Nat.le_refl _,hl,(fun e=>by cases e),fun i x hx=>⟨w.heap.size,0,rfl,fun j v hj=>by
  rw [cell_of_row _ w.heap.size _ _ t (0,0) (heap_alloc_new w _),Nat.zero_add]
  simpa using flat_at L i x hx j v hj⟩⟩
end
end Go.Proofs.YtfhhihamndbcnaaGreatDoor
end
section
namespace Go.Proofs.YtfhhihamndbcnaaGreatDoor
open Go.RowKit
structure Past (w:World) where
 goal:World
 below:Below w.heap.size w goal
instance (w:World):Nonempty (Past w):=⟨⟨w,Below.refl _ _⟩⟩
theorem wp_region_past {P:Program} {id:Nat} {Q:Exit→Act→World→Prop} {a:Act} {w:World} {l:List Oper} (hm:P.follows .mixedOrders=true) (hB:Region.lexB .any l.toArray=true)
 (h:wpQuiet P l.toArray (fun w'=>∃ p:Past w,w'=p.goal) (fun a'=>∀ w',(∃ p:Past w,w'=p.goal)→Q .normal a' w') l a):(Code.region id l.toArray true).wp P Q a w :=
 wp_region_quiet (C:=fun w'=>∃ p:Past w,w'=p.goal) hm hB ⟨⟨w.drew,⟨rfl,rfl,rfl,Nat.le_refl _,fun _ _=>rfl⟩⟩,rfl⟩ (by simpa using h)
theorem cell_past {w:World} {ad:Addr} {v:Value} (h:w.cell? ad=some v) (p:Past w):p.goal.cell? ad=some v :=
 (p.below.cell (World.block_lt_of_cell? w _ h)).trans h
theorem Calls.past_of {P:Program} {f:FuncId} {args:Array Value} {w:World} {p:Past w} {v:Value} (h:Calls P f args p.goal fun e w'=>e=.returned v∧Below p.goal.heap.size p.goal w') :
 Calls P f args p.goal fun e w''=>e=.returned v∧∃ p':Past w,w''=p'.goal :=
 h.mono fun _ w'' ⟨he,hb⟩=>⟨he,⟨w'',p.below.trans (hb.mono p.below.size)⟩,rfl⟩
end Go.Proofs.YtfhhihamndbcnaaGreatDoor
end
section
namespace Go.Proofs.YtfhhihamndbcnaaGreatDoor
open Go.RowKit
theorem new_cells (w:World) (cs:List Value) (t:TypeId):∀ (j:Nat) u,cs[j]?=some u→(w.alloc (.cells cs.toArray t)).cell? ((⟨w.heap.size,0,none⟩:Addr).add j)=some u:=fun j u hj=>by
 rw [add_off,Nat.zero_add,cell_of_row _ w.heap.size j _ t (0,0) (heap_alloc_new w _)]
 simpa using hj
theorem new_cells2 (w:World) (o:Obj) (cs:List Value) (t:TypeId):∀ (j:Nat) u,cs[j]?=some u→((w.alloc o).alloc (.cells cs.toArray t)).cell? ((⟨w.heap.size+1,0,none⟩:Addr).add j)=some u:=fun j u hj=>by
 have:=new_cells (w.alloc o) cs t j u hj
 rwa [World.size_alloc] at this
end Go.Proofs.YtfhhihamndbcnaaGreatDoor
end
