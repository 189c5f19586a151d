/- ChartMem ChartFind ChartBelow ChartLaid -/
import Derived.Deep.LoopGhost
import Derived.Handy
import Derived.LoopTactic
import Derived.WalkLawsBesides
import Derived.Test.YtfhhihamndbcnaaGreatDoorR04
import Derived.Test.YtfhhihamndbcnaaGreatDoorR05
section
namespace Go.Proofs.YtfhhihamndbcnaaGreatDoor
open Go.RowKit
structure AcctAt (w:World) (b o:Nat) (a:Acct):Prop where
 c0:w.cell? ⟨b,o,none⟩=some (.string a.code)
 c1:w.cell? ⟨b,o+1,none⟩=some (.int .i64 a.cls)
 c2:w.cell? ⟨b,o+2,none⟩=some (.bool a.cash)
 c3:w.cell? ⟨b,o+3,none⟩=some (.bool a.both)
 c4:w.cell? ⟨b,o+4,none⟩=some (.string a.fixed)
 c5:w.cell? ⟨b,o+5,none⟩=some (.bool a.worn)
theorem AcctAt.lt {w:World} {b o:Nat} {a:Acct} (h:AcctAt w b o a):b < w.heap.size:=World.block_lt_of_cell? w _ h.c0
theorem AcctAt.keep {w w':World} {b o B:Nat} {a:Acct} (h:AcctAt w b o a) (hb:Below B w w') (hB:b < B):AcctAt w' b o a :=
 ⟨(hb.cell (p:=⟨b,_,none⟩) hB).trans h.c0,(hb.cell (p:=⟨b,_,none⟩) hB).trans h.c1,(hb.cell (p:=⟨b,_,none⟩) hB).trans h.c2,(hb.cell (p:=⟨b,_,none⟩) hB).trans h.c3,(hb.cell (p:=⟨b,_,none⟩) hB).trans h.c4,(hb.cell (p:=⟨b,_,none⟩) hB).trans h.c5⟩
theorem acct_of {w:World} {b o:Nat} {a:Acct} (h:∀ j v,a.cells[j]?=some v→w.cell? ⟨b,o+j,none⟩=some v):AcctAt w b o a :=
 ⟨h 0 _ rfl,h 1 _ rfl,h 2 _ rfl,h 3 _ rfl,h 4 _ rfl,h 5 _ rfl⟩
theorem AcctAt.cell {w:World} {b o:Nat} {a:Acct} (h:AcctAt w b o a):∀ (j:Nat) v,a.cells[j]?=some v→w.cell? ⟨b,o+j,none⟩=some v
 | 0,_,e=>by cases e;exact h.c0
 | 1,_,e=>by cases e;exact h.c1
 | 2,_,e=>by cases e;exact h.c2
 | 3,_,e=>by cases e;exact h.c3
 | 4,_,e=>by cases e;exact h.c4
 | 5,_,e=>by cases e;exact h.c5
 | j+6,_,e=>by simp [Acct.cells] at e
def ChartV (w:World) (v:Value) (L:List Acct):Prop :=
 ∃ p c,v=.slice p L.length c∧L.length≤c∧c≤maxLen∧(p=none→c=0)∧∀ (i:Nat) (x:Acct),L[i]?=some x→∃ b o,p=some ⟨b,o,none⟩∧AcctAt w b (o+i * 6) x
theorem ChartV.nil (w:World):ChartV w (.slice none 0 0) []:=⟨none,0,rfl,by simp,by simp,fun _=>rfl,fun i x h=>by simp at h⟩
theorem ChartV.keep {w w':World} {v:Value} {L:List Acct} (h:ChartV w v L) (hb:Below w.heap.size w w'):ChartV w' v L:=by
 obtain ⟨a,c,e,h1,h2,h3,hc⟩:=h
 exact ⟨a,c,e,h1,h2,h3,fun i x hx=>by
  obtain ⟨b,o,ea,hx'⟩:=hc i x hx
  exact ⟨b,o,ea,hx'.keep hb hx'.lt⟩⟩
def flatA (L:List Acct):List Value:=L.flatMap Acct.cells
theorem flatA_cons (a:Acct) (L:List Acct):flatA (a::L)=a.cells++flatA L:=rfl
theorem flatA_append (L M:List Acct):flatA (L++M)=flatA L++flatA M:=by simp [flatA]
theorem flatA_length (L:List Acct):(flatA L).length=L.length * 6:=by
 induction L with
 | nil=>rfl
 | cons a L ih=>rw [flatA_cons];simp [ih,Acct.cells];omega
theorem flatA_at:∀ (L:List Acct) (i:Nat) (x:Acct),L[i]?=some x→∀ (j:Nat) v,x.cells[j]?=some v→(flatA L)[i * 6+j]?=some v
 | [],i,x,h=>by simp at h
 | y::L,0,x,h=>by
   simp at h
   subst h
   intro j v hj
   have:j < y.cells.length:=(List.getElem?_eq_some_iff.1 hj).1
   rw [flatA_cons,Nat.zero_mul,Nat.zero_add,List.getElem?_append_left this];exact hj
 | y::L,i+1,x,h=>fun j v hj=>by
   have ih:=flatA_at L i x (by simpa using h) j v hj
   rw [flatA_cons,show (i+1) * 6+j=y.cells.length+(i * 6+j) by simp [Acct.cells];omega,List.getElem?_append_right (by omega)]
   simpa using ih
theorem flatA_of {L:List Acct} {k:Nat} {v:Value} (h:(flatA L)[k]?=some v):∃ x,L[k / 6]?=some x∧x.cells[k % 6]?=some v:=by
 have hk:k < L.length * 6:=by rw [←flatA_length];exact (List.getElem?_eq_some_iff.1 h).1
 have hi:k / 6 < L.length:=by omega
 refine ⟨L[k / 6],List.getElem?_eq_getElem hi,?_⟩
 have hj:k % 6 < (L[k / 6]).cells.length:=by simp [Acct.cells];omega
 have:=flatA_at L (k / 6) _ (List.getElem?_eq_getElem hi) (k % 6) _ (List.getElem?_eq_getElem hj)
 rw [show k / 6 * 6+k % 6=k by omega,h] at this
 rw [List.getElem?_eq_getElem hj,this]
theorem flatA_one (L:List Acct):∀ v∈flatA L,v.oneCell'=true:=by
 intro v hv
 obtain ⟨a,_,ha⟩:=List.mem_flatMap.1 hv
 simp [Acct.cells] at ha
 rcases ha with rfl | rfl | rfl | rfl | rfl | rfl <;> rfl
theorem flatA_take (L:List Acct) (k:Nat):flatA (L.take k)=(flatA L).take (k * 6):=by
 induction L generalizing k with
 | nil=>simp [flatA]
 | cons a L ih =>
   cases k with
   | zero=>simp [flatA]
   | succ k =>
     rw [List.take_succ_cons,flatA_cons,flatA_cons,ih,List.take_append]
     have:a.cells.length=6:=rfl
     rw [this,show (k+1) * 6 - 6=k * 6 by omega,List.take_of_length_le (l:=a.cells) (by rw [this];omega)]
theorem flatA_drop (L:List Acct) (k:Nat):flatA (L.drop k)=(flatA L).drop (k * 6):=by
 induction L generalizing k with
 | nil=>simp [flatA]
 | cons a L ih =>
   cases k with
   | zero=>simp
   | succ k =>
     rw [List.drop_succ_cons,flatA_cons,ih,List.drop_append]
     have:a.cells.length=6:=rfl
     rw [this,show (k+1) * 6 - 6=k * 6 by omega,List.drop_of_length_le (l:=a.cells) (by rw [this];omega),List.nil_append]
theorem ChartV.cells {w:World} {p:Option Addr} {n c:Nat} {L:List Acct} (h:ChartV w (.slice p n c) L) (hL:L≠[]):∃ b o,p=some ⟨b,o,none⟩∧b < w.heap.size∧∀ (j:Nat) v,(flatA L)[j]?=some v→w.cell? ⟨b,o+j,none⟩=some v:=by
 obtain ⟨p',c',e,_,_,_,hc⟩:=h
 cases e
 cases L with
 | nil=>exact absurd rfl hL
 | cons a L =>
   obtain ⟨b,o,rfl,h0⟩:=hc 0 a rfl
   refine ⟨b,o,rfl,h0.lt,fun j v hj=>?_⟩
   obtain ⟨x,hx,hv⟩:=flatA_of hj
   obtain ⟨b',o',e',h1⟩:=hc _ x hx
   cases e'
   have:=h1.cell _ v hv
   rwa [Nat.add_assoc,show j / 6 * 6+j % 6=j by omega] at this
theorem chart_of_own {w:World} {B:Nat} {e:TypeId} {v:Value} {L:List Acct} (h:w.ownsRow B e 6 v L.length (flatA L)):ChartV w v L:=by
 have h0:=h
 rcases h.2 with ⟨rfl,hn⟩ | ⟨g,cap,cur,rfl,_,_,hnc,hcm,_⟩
 ·have:L=[]:=List.eq_nil_of_length_eq_zero hn
  subst this
  exact ChartV.nil w
 ·refine ⟨_,cap,rfl,hnc,hcm,(fun e=>by cases e),fun i x hx=>⟨g,0,rfl,acct_of fun j u hj=>?_⟩⟩
  have:=h0.cells (g:=g) rfl _ _ (flatA_at L i x hx j u hj)
  rwa [add_off,←Nat.add_assoc] at this
end Go.Proofs.YtfhhihamndbcnaaGreatDoor
end
section
namespace Go.Proofs.YtfhhihamndbcnaaGreatDoor
open Go.RowKit
def BoxA (w:World) (b:Nat) (t:TypeId) (a:Acct):Prop:=w.heap[b]?=some (.cells #[.string a.code,.int .i64 a.cls,.bool a.cash,.bool a.both,.string a.fixed,.bool a.worn] t (0,0))
theorem BoxA.keep {w w':World} {b B:Nat} {t:TypeId} {a:Acct} (h:BoxA w b t a) (hb:Below B w w') (hB:b < B):BoxA w' b t a:=(hb.block b hB).trans h
theorem BoxA.new (w:World) (a:Acct) (t:TypeId):BoxA (w.alloc (.cells #[.string a.code,.int .i64 a.cls,.bool a.cash,.bool a.both,.string a.fixed,.bool a.worn] t)) w.heap.size t a:=heap_alloc_new w _
theorem BoxA.at0 {w:World} {b:Nat} {t:TypeId} {a:Acct} (h:BoxA w b t a):AcctAt w b 0 a :=
 acct_of fun j v hj=>by rw [Nat.zero_add,cell_of_row _ b j _ t (0,0) h];simpa [Acct.cells] using hj
theorem BoxA.facts {w:World} {b:Nat} {t:TypeId} {a:Acct} (h:BoxA w b t a) :
 w.cell? ⟨b,0,none⟩=some (.string a.code)∧w.cell? ⟨b,1,none⟩=some (.int .i64 a.cls)∧w.cell? ⟨b,2,none⟩=some (.bool a.cash)∧w.cell? ⟨b,3,none⟩=some (.bool a.both)∧w.cell? ⟨b,4,none⟩=some (.string a.fixed)∧w.cell? ⟨b,5,none⟩=some (.bool a.worn) :=
 ⟨h.at0.c0,h.at0.c1,h.at0.c2,h.at0.c3,h.at0.c4,h.at0.c5⟩
theorem BoxA.set {w:World} {b:Nat} {t:TypeId} {a:Acct} (h:BoxA w b t a) (x:Acct):BoxA (w.setRow b #[.string x.code,.int .i64 x.cls,.bool x.cash,.bool x.both,.string x.fixed,.bool x.worn]) b t x:=setRow_heap w b _ _ t _ h
theorem acct_one (a:Acct):(#[.string a.code,.int .i64 a.cls,.bool a.cash,.bool a.both,.string a.fixed,.bool a.worn]:Array Value).all (·.oneCell')=true:=by simp [Value.oneCell']
theorem grownBy_setRow (w:World) (g:Nat) (cs:Array Value):w.grownBy (w.setRow g cs) (some g) :=
 ⟨rfl,rfl,rfl,by simp [World.setRow],fun k _ hk=>setRow_other w g k cs (fun e=>hk (by rw [e]))⟩
theorem wpList_store_acct {P:Program} {ops:Array Oper} {rest:List Oper} {o:Oper} {act:Act} {w:World} {Q:Exit→Act→World→Prop} (hgd:o.guard=none) (ty:TypeId) (x y:Operand) (ho:o.op=.store ty x y)
 (g:Nat) (z a:Acct) (t:TypeId) (hx:act.eval x=.pointer (some ⟨g,0,none⟩)) (hy:act.eval y=.agg #[.string a.code,.int .i64 a.cls,.bool a.cash,.bool a.both,.string a.fixed,.bool a.worn]) (hg:BoxA w g t z) (hi:(P.info? ty).map (·.size)=some 6)
 (h:∀ w',BoxA w' g t a→w.grownBy w' (some g)→wpList P ops Q rest (act.put o.dst undef) w'):wpList P ops Q (o::rest) act w :=
 wpList_store_row hgd ty x y ho g _ hx hy t _ hg hi rfl (acct_one a) (h _ (hg.set a) (grownBy_setRow w g _))
abbrev aggF (a:Acct):Value:=.agg #[.string a.code,.int .i64 a.cls,.bool a.cash,.bool a.both,.string a.fixed,.bool a.worn]
def findV (o:Option Acct):Acct:=o.getD zeroA
set_option maxRecDepth 100000 in
set_option maxHeartbeats 2000000 in
theorem find_any (v:Value) (L:List Acct) (code:ByteArray) (w:World) (h:ChartV w v L) :
 Calls Tryz.prog 109 #[v,.string code] w fun e w'=>e=.returned (.tuple #[aggF (findV (findL L code)),.bool (findL L code).isSome])∧Below w.heap.size w w':=by
 obtain ⟨a,c,rfl,hcap,hm,_,hc⟩:=h
 obtain ⟨n,hn⟩:∃ n,L.length=n:=⟨_,rfl⟩
 obtain ⟨r,hr⟩:∃ r,findL L code=r:=⟨_,rfl⟩
 rw [hn] at hcap ⊢
 rw [hr]
 have HC:=Lib.hid hc
 have HN:=Lib.hid hn
 have HR:=Lib.hid hr
 unfold maxLen at hm
 clear hc hn hr
 obtain ⟨R,hR⟩:∃ R,findV r=R:=⟨_,rfl⟩
 obtain ⟨S,hS⟩:∃ S,r.isSome=S:=⟨_,rfl⟩
 rw [hR,hS]
 have HRV:=Lib.hid hR
 have HSV:=Lib.hid hS
 clear hR hS
 have HB0:=Lib.hid ((Below.refl w.heap.size w).alloc (Nat.le_refl _) (.cells #[.string ⟨#[]⟩,.int .i64 0,.bool false,.bool false,.string ⟨#[]⟩,.bool false] 199))
 have HC0:=Lib.hid (BoxA.new w zeroA 199)
 go_enter Tryz.func109,Tryz.ntmps109
 go_wp2
 go_loopw [10] (fun s10 wr=>∃ i:Nat,i≤n∧s10=.int .i64 (i:Int)∧Below w.heap.size w wr∧w.heap.size < wr.heap.size∧BoxA wr w.heap.size 199 zeroA∧Hid (∀ (j:Nat) (y:Acct),j < i→L[j]?=some y→y.code≠code)) (fun s10 _=>n - (intOf s10).toNat)
 case atStart=>exact ⟨0,Nat.zero_le _,rfl,HB0.out,by simp,HC0.out,Lib.hid fun j y hj=>absurd hj (Nat.not_lt_zero _)⟩
 case round =>
  obtain ⟨i,hi,rfl,hnx,hsz,hbox,HNO⟩:=hrel
  by_cases hlt:i < n
  ·obtain ⟨x,hx⟩:∃ x,L[i]?=some x:=⟨_,List.getElem?_eq_getElem (by rw [HN.out];exact hlt)⟩
   obtain ⟨b,o,rfl,hat⟩:=HC.out i x hx
   obtain ⟨c0,c1,c2,c3,c4,c5⟩:=hat.keep hnx hat.lt
   have HX:=Lib.hid hx
   have HBX:=Lib.hid hbox
   have HNX:=Lib.hid (hnx.alloc (Nat.le_of_lt hsz) (.cells #[.string x.code,.int .i64 x.cls,.bool x.cash,.bool x.both,.string x.fixed,.bool x.worn] 199))
   have HBN:=Lib.hid (hbox.keep ((Below.refl wr.heap.size wr).alloc (Nat.le_refl _) (.cells #[.string x.code,.int .i64 x.cls,.bool x.cash,.bool x.both,.string x.fixed,.bool x.worn] 199)) hsz)
   have HSZ:=Lib.hid hsz
   clear hx hbox hat
   cases hxe:(x.code.toList==code.toList) with
   | false =>
     have HXE:=Lib.hid ((Lib.bytes_beq_false_iff x.code code).1 hxe)
     go_wp2
     go_roundw
     case rel=>exact ⟨i+1,by omega,by go_num,HNX.out,by simp;omega,HBN.out,Lib.hid fun j y hj hy=>by
      rcases Nat.lt_or_ge j i with h | h
      ·exact HNO.out j y h hy
      ·obtain rfl:j=i:=by omega
       rw [HX.out] at hy;cases hy;exact HXE.out⟩
     case measure=>simp [intOf];omega
   | true =>
     have HXE:=Lib.hid ((Lib.bytes_beq_iff x.code code).1 hxe)
     have hres:Hid (r=some x):=Lib.hid (by rw [←HR.out];exact find_at HNO.out HX.out HXE.out)
     go_wp2_with (refine wpList_store_acct rfl 199 (.tmp 4) (.tmp 18) rfl w.heap.size zeroA x 199 rfl rfl HBN.out (by kernel_rfl) ?_;intro w2 hb2 hg2)
     have HF:=Lib.hid (HNX.out.grown hg2 HNX.out.size (fun j hj=>by cases hj;exact Nat.le_refl _))
     obtain ⟨d0,d1,d2,d3,d4,d5⟩:=hb2.facts
     clear hb2 hg2
     refine bodyPost_ret (v:=.tuple #[aggF x,.bool true]) (by simp [results,Tryz.results109,go_sem,d0,d1,d2,d3,d4,d5]) rfl ⟨?_,HF.out⟩
     rw [←HRV.out,←HSV.out,hres.out];rfl
  ·have hres:Hid (r=none):=Lib.hid (by
    rw [←HR.out]
    refine find_none fun j y hy=>HNO.out j y ?_ hy
    have:=(List.getElem?_eq_some_iff.1 hy).1
    rw [HN.out] at this;omega)
   have HNX:=Lib.hid hnx
   go_wp2_with (refine wpList_store_acct rfl 199 (.tmp 4) (.tmp 20) rfl w.heap.size zeroA zeroA 199 rfl rfl hbox (by kernel_rfl) ?_;intro w2 hb2 hg2)
   have HF:=Lib.hid (HNX.out.grown hg2 HNX.out.size (fun j hj=>by cases hj;exact Nat.le_refl _))
   obtain ⟨d0,d1,d2,d3,d4,d5⟩:=hb2.facts
   clear hb2 hg2
   refine bodyPost_ret (v:=.tuple #[aggF zeroA,.bool false]) (by simp [results,Tryz.results109,go_sem,d0,d1,d2,d3,d4,d5]) rfl ⟨?_,HF.out⟩
   rw [←HRV.out,←HSV.out,hres.out];rfl
end Go.Proofs.YtfhhihamndbcnaaGreatDoor
end
section
namespace Go.Proofs.YtfhhihamndbcnaaGreatDoor
open Go.RowKit
theorem ret_num {k:IntKind} {a b:Int} (h:a=b):Ending.returned (.int k a)=.returned (.int k b):=by rw [h]
set_option maxRecDepth 100000 in
set_option maxHeartbeats 2000000 in
theorem below_any (v:Value) (L:List Acct) (code:ByteArray) (w:World) (h:ChartV w v L) :
 Calls Tryz.prog 147 #[v,.string code] w fun e w'=>e=.returned (.int .i64 (belowL L code))∧Below w.heap.size w w':=by
 obtain ⟨a,c,rfl,hcap,hm,_,hc⟩:=h
 obtain ⟨n,hn⟩:∃ n,L.length=n:=⟨_,rfl⟩
 obtain ⟨r,hr⟩:∃ r,belowL L code=r:=⟨_,rfl⟩
 rw [hn] at hcap ⊢
 rw [hr]
 have HC:=Lib.hid hc
 have HN:=Lib.hid hn
 have HR:=Lib.hid hr
 unfold maxLen at hm
 clear hc hn hr
 go_enter Tryz.func147,Tryz.ntmps147
 go_wp2
 go_loopw [9] (fun s9 wr=>∃ i:Nat,i≤n∧s9=.int .i64 (i:Int)∧Below w.heap.size w wr∧Hid (∀ (j:Nat) (y:Acct),j < i→L[j]?=some y→gtS y.code code=false)) (fun s9 _=>n - (intOf s9).toNat)
 case atStart=>exact ⟨0,Nat.zero_le _,rfl,Below.refl _ _,Lib.hid fun j y hj=>absurd hj (Nat.not_lt_zero _)⟩
 case round =>
  obtain ⟨i,hi,rfl,hnx,HNO⟩:=hrel
  by_cases hlt:i < n
  ·obtain ⟨x,hx⟩:∃ x,L[i]?=some x:=⟨_,List.getElem?_eq_getElem (by rw [HN.out];exact hlt)⟩
   obtain ⟨b,o,rfl,hat⟩:=HC.out i x hx
   obtain ⟨c0,c1,c2,c3,c4,c5⟩:=hat.keep hnx hat.lt
   have HX:=Lib.hid hx
   have HNX:=Lib.hid (hnx.alloc hnx.size (.cells #[.string x.code,.int .i64 x.cls,.bool x.cash,.bool x.both,.string x.fixed,.bool x.worn] 199))
   clear hx hat
   cases hxe:gtS x.code code with
   | false =>
     have HXE:=Lib.hid hxe
     unfold gtS ltS at hxe
     simp only [Bool.not_eq_false'] at hxe
     go_wp2
     all_goals
      go_roundw
      case rel=>exact ⟨i+1,by omega,by go_num,HNX.out,Lib.hid fun j y hj hy=>by
       rcases Nat.lt_or_ge j i with h | h
       ·exact HNO.out j y h hy
       ·obtain rfl:j=i:=by omega
        rw [HX.out] at hy;cases hy;exact HXE.out⟩
      case measure=>simp [intOf];omega
   | true =>
     have HXE:=Lib.hid hxe
     have hres:Hid (r=i):=Lib.hid (by rw [←HR.out];exact below_at HNO.out HX.out HXE.out)
     unfold gtS ltS at hxe
     simp only [Bool.not_eq_true',Bool.or_eq_false_iff] at hxe
     obtain ⟨g1,g2⟩:=hxe
     go_wp2
     all_goals
      go_ret
      exact ⟨ret_num (by rw [hres.out]),HNX.out⟩
  ·have hres:Hid (r=n):=Lib.hid (by
    rw [←HR.out,←HN.out]
    refine below_none fun j y hy=>HNO.out j y ?_ hy
    have:=(List.getElem?_eq_some_iff.1 hy).1
    rw [HN.out] at this;omega)
   go_wp2
   go_ret
   exact ⟨ret_num (by rw [hres.out]),hnx⟩
end Go.Proofs.YtfhhihamndbcnaaGreatDoor
end
section
namespace Go.Proofs.YtfhhihamndbcnaaGreatDoor
open Go.RowKit
structure Laid (w:World):Prop where
 g0:w.cell? ⟨1,0,none⟩=some (.string tAsset)
 g1:w.cell? ⟨1,1,none⟩=some (.string tLiability)
 g2:w.cell? ⟨1,2,none⟩=some (.string tEquity)
theorem Laid.below {w w':World} {B:Nat} (h:Laid w) (hb:Below B w w') (hB:w.heap.size≤B):Laid w' :=
 have lt:=Nat.lt_of_lt_of_le (World.block_lt_of_cell? w _ h.g0) hB
 ⟨(hb.cell (p:=⟨_,0,none⟩) lt).trans h.g0,(hb.cell (p:=⟨_,1,none⟩) lt).trans h.g1,(hb.cell (p:=⟨_,2,none⟩) lt).trans h.g2⟩
theorem at_arr0 (w:World):(Instr.index 269 (.agg #[.string tAsset,.string tLiability,.string tEquity]) (.int .i64 0)).run Tryz.prog w=.ok (.string tAsset) w:=by kernel_rfl
theorem at_arr1 (w:World):(Instr.index 269 (.agg #[.string tAsset,.string tLiability,.string tEquity]) (.int .i64 1)).run Tryz.prog w=.ok (.string tLiability) w:=by kernel_rfl
theorem at_arr2 (w:World):(Instr.index 269 (.agg #[.string tAsset,.string tLiability,.string tEquity]) (.int .i64 2)).run Tryz.prog w=.ok (.string tEquity) w:=by kernel_rfl
theorem beqS (x y:ByteArray):(x.toList==y.toList)=decide (x=y):=by
 cases h:(x.toList==y.toList) with
 | true=>rw [decide_eq_true ((Lib.bytes_beq_iff x y).1 h)]
 | false=>rw [decide_eq_false ((Lib.bytes_beq_false_iff x y).1 h)]
set_option maxRecDepth 100000 in
set_option maxHeartbeats 2000000 in
theorem classOf_any (s:ByteArray) (w:World) (hL:Laid w) :
 Calls Tryz.prog 141 #[.string s] w fun e w'=>e=.returned (.int .i64 (clsOf s))∧w=w':=by
 obtain ⟨g0,g1,g2⟩:=hL
 obtain ⟨r,hr⟩:∃ r,clsOf s=r:=⟨_,rfl⟩
 rw [hr]
 have HR:=Lib.hid hr
 clear hr
 obtain ⟨A,hA⟩:∃ A,tAsset=A:=⟨_,rfl⟩
 obtain ⟨B,hB⟩:∃ B,tLiability=B:=⟨_,rfl⟩
 obtain ⟨C,hC⟩:∃ C,tEquity=C:=⟨_,rfl⟩
 have i0:=at_arr0
 have i1:=at_arr1
 have i2:=at_arr2
 rw [hA] at g0 i0 i1 i2
 rw [hB] at g1 i0 i1 i2
 rw [hC] at g2 i0 i1 i2
 have HA:=Lib.hid hA
 have HBB:=Lib.hid hB
 have HCC:=Lib.hid hC
 clear hA hB hC
 cases hs0:(A.toList==s.toList) with
 | true =>
   have HS:=Lib.hid ((Lib.bytes_beq_iff A s).1 hs0)
   go_enter Tryz.func141,Tryz.ntmps141
   go_wp2
   refine wp_loop_rounds 1 ?_
   rw [rounds_succ]
   go_wp2
   go_ret
   exact ⟨ret_num (by rw [←HR.out,←HS.out,←HA.out];decide),rfl⟩
 | false =>
   have HS:=Lib.hid ((Lib.bytes_beq_false_iff A s).1 hs0)
   cases hs1:(B.toList==s.toList) with
   | true =>
     have HS1:=Lib.hid ((Lib.bytes_beq_iff B s).1 hs1)
     go_enter Tryz.func141,Tryz.ntmps141
     go_wp2
     refine wp_loop_rounds 2 ?_
     rw [rounds_succ]
     go_wp2
     rw [rounds_succ]
     go_wp2
     go_ret
     exact ⟨ret_num (by rw [←HR.out,←HS1.out,←HBB.out];decide),rfl⟩
   | false =>
     have HS1:=Lib.hid ((Lib.bytes_beq_false_iff B s).1 hs1)
     cases hs2:(C.toList==s.toList) with
     | true =>
       have HS2:=Lib.hid ((Lib.bytes_beq_iff C s).1 hs2)
       go_enter Tryz.func141,Tryz.ntmps141
       go_wp2
       refine wp_loop_rounds 3 ?_
       rw [rounds_succ]
       go_wp2
       rw [rounds_succ]
       go_wp2
       rw [rounds_succ]
       go_wp2
       go_ret
       exact ⟨ret_num (by rw [←HR.out,←HS2.out,←HCC.out];decide),rfl⟩
     | false =>
       have HS2:=Lib.hid ((Lib.bytes_beq_false_iff C s).1 hs2)
       have hres:Hid (r=-1):=Lib.hid (by
        rw [←HR.out]
        have a0:s≠tAsset:=by rw [HA.out];exact fun e=>HS.out e.symm
        have a1:s≠tLiability:=by rw [HBB.out];exact fun e=>HS1.out e.symm
        have a2:s≠tEquity:=by rw [HCC.out];exact fun e=>HS2.out e.symm
        unfold clsOf
        rw [if_neg a0,if_neg a1,if_neg a2])
       go_enter Tryz.func141,Tryz.ntmps141
       go_wp2
       refine wp_loop_rounds 4 ?_
       rw [rounds_succ]
       go_wp2
       rw [rounds_succ]
       go_wp2
       rw [rounds_succ]
       go_wp2
       rw [rounds_succ]
       go_wp2
       go_ret
       exact ⟨ret_num hres.out.symm,rfl⟩
end Go.Proofs.YtfhhihamndbcnaaGreatDoor
end
