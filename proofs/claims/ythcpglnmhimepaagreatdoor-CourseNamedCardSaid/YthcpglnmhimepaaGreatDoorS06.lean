/- ChartFind ChartBelow ChartLaid ChartMarked -/
import Derived.Deep.LoopGhost
import Derived.Handy
import Derived.LoopTactic
import Derived.WalkLawsBesides
import Derived.Test.YthcpglnmhimepaaGreatDoorS03
section
namespace Go.Proofs.YthcpglnmhimepaaGreatDoor
open Go.RowKit
def BoxA (w:World) (b:Nat) (t:TypeId) (a:Acct):Prop:=w.heap[b]?=some (.cells #[.string a.code,.int .i64 a.cls,.bool a.cash,.bool a.both,.string a.fixed,.bool a.worn] t (0,0))
theorem BoxA.keep {w w':World} {b B:Nat} {t:TypeId} {a:Acct} (h:BoxA w b t a) (hb:Below B w w') (hB:b < B):BoxA w' b t a:=(hb.block b hB).trans h
theorem BoxA.new (w:World) (a:Acct) (t:TypeId):BoxA (w.alloc (.cells #[.string a.code,.int .i64 a.cls,.bool a.cash,.bool a.both,.string a.fixed,.bool a.worn] t)) w.heap.size t a:=heap_alloc_new w _
theorem BoxA.at0 {w:World} {b:Nat} {t:TypeId} {a:Acct} (h:BoxA w b t a):AcctAt w b 0 a :=
 acct_of fun j v hj=>by rw [Nat.zero_add,cell_of_row _ b j _ t (0,0) h];simpa [Acct.cells] using hj
theorem BoxA.facts {w:World} {b:Nat} {t:TypeId} {a:Acct} (h:BoxA w b t a) :
 w.cell? ⟨b,0,none⟩=some (.string a.code)∧w.cell? ⟨b,1,none⟩=some (.int .i64 a.cls)∧w.cell? ⟨b,2,none⟩=some (.bool a.cash)∧w.cell? ⟨b,3,none⟩=some (.bool a.both)∧w.cell? ⟨b,4,none⟩=some (.string a.fixed)∧w.cell? ⟨b,5,none⟩=some (.bool a.worn) :=
 ⟨h.at0.c0,h.at0.c1,h.at0.c2,h.at0.c3,h.at0.c4,h.at0.c5⟩
theorem BoxA.set {w:World} {b:Nat} {t:TypeId} {a:Acct} (h:BoxA w b t a) (x:Acct):BoxA (w.setRow b #[.string x.code,.int .i64 x.cls,.bool x.cash,.bool x.both,.string x.fixed,.bool x.worn]) b t x:=setRow_heap w b _ _ t _ h
theorem acct_one (a:Acct):(#[.string a.code,.int .i64 a.cls,.bool a.cash,.bool a.both,.string a.fixed,.bool a.worn]:Array Value).all (·.oneCell')=true:=by simp [Value.oneCell']
theorem grownBy_setRow (w:World) (g:Nat) (cs:Array Value):w.grownBy (w.setRow g cs) (some g) :=
 ⟨rfl,rfl,rfl,by simp [World.setRow],fun k _ hk=>setRow_other w g k cs (fun e=>hk (by rw [e]))⟩
theorem wpList_store_acct {P:Program} {ops:Array Oper} {rest:List Oper} {o:Oper} {act:Act} {w:World} {Q:Exit→Act→World→Prop} (hgd:o.guard=none) (ty:TypeId) (x y:Operand) (ho:o.op=.store ty x y)
 (g:Nat) (z a:Acct) (t:TypeId) (hx:act.eval x=.pointer (some ⟨g,0,none⟩)) (hy:act.eval y=.agg #[.string a.code,.int .i64 a.cls,.bool a.cash,.bool a.both,.string a.fixed,.bool a.worn]) (hg:BoxA w g t z) (hi:(P.info? ty).map (·.size)=some 6)
 (h:∀ w',BoxA w' g t a→w.grownBy w' (some g)→wpList P ops Q rest (act.put o.dst undef) w'):wpList P ops Q (o::rest) act w :=
 wpList_store_row hgd ty x y ho g _ hx hy t _ hg hi rfl (acct_one a) (h _ (hg.set a) (grownBy_setRow w g _))
abbrev aggF (a:Acct):Value:=.agg #[.string a.code,.int .i64 a.cls,.bool a.cash,.bool a.both,.string a.fixed,.bool a.worn]
def findV (o:Option Acct):Acct:=o.getD zeroA
set_option maxRecDepth 100000 in
set_option maxHeartbeats 2000000 in
theorem find_any (v:Value) (L:List Acct) (code:ByteArray) (w:World) (h:ChartV w v L) :
 Calls Tryz.prog 111 #[v,.string code] w fun e w'=>e=.returned (.tuple #[aggF (findV (findL L code)),.bool (findL L code).isSome])∧Below w.heap.size w w':=by
 obtain ⟨a,c,rfl,hcap,hm,_,hc⟩:=h
 obtain ⟨n,hn⟩:∃ n,L.length=n:=⟨_,rfl⟩
 obtain ⟨r,hr⟩:∃ r,findL L code=r:=⟨_,rfl⟩
 rw [hn] at hcap ⊢
 rw [hr]
 have HC:=Lib.hid hc
 have HN:=Lib.hid hn
 have HR:=Lib.hid hr
 unfold maxLen at hm
 clear hc hn hr
 obtain ⟨R,hR⟩:∃ R,findV r=R:=⟨_,rfl⟩
 obtain ⟨S,hS⟩:∃ S,r.isSome=S:=⟨_,rfl⟩
 rw [hR,hS]
 have HRV:=Lib.hid hR
 have HSV:=Lib.hid hS
 clear hR hS
 have HB0:=Lib.hid ((Below.refl w.heap.size w).alloc (Nat.le_refl _) (.cells #[.string ⟨#[]⟩,.int .i64 0,.bool false,.bool false,.string ⟨#[]⟩,.bool false] 192))
 have HC0:=Lib.hid (BoxA.new w zeroA 192)
 go_enter Tryz.func111,Tryz.ntmps111
 go_wp2
 go_loopw [10] (fun s10 wr=>∃ i:Nat,i≤n∧s10=.int .i64 (i:Int)∧Below w.heap.size w wr∧w.heap.size < wr.heap.size∧BoxA wr w.heap.size 192 zeroA∧Hid (∀ (j:Nat) (y:Acct),j < i→L[j]?=some y→y.code≠code)) (fun s10 _=>n - (intOf s10).toNat)
 case atStart=>exact ⟨0,Nat.zero_le _,rfl,HB0.out,by simp,HC0.out,Lib.hid fun j y hj=>absurd hj (Nat.not_lt_zero _)⟩
 case round =>
  obtain ⟨i,hi,rfl,hnx,hsz,hbox,HNO⟩:=hrel
  by_cases hlt:i < n
  ·obtain ⟨x,hx⟩:∃ x,L[i]?=some x:=⟨_,List.getElem?_eq_getElem (by rw [HN.out];exact hlt)⟩
   obtain ⟨b,o,rfl,hat⟩:=HC.out i x hx
   obtain ⟨c0,c1,c2,c3,c4,c5⟩:=hat.keep hnx hat.lt
   have HX:=Lib.hid hx
   have HBX:=Lib.hid hbox
   have HNX:=Lib.hid (hnx.alloc (Nat.le_of_lt hsz) (.cells #[.string x.code,.int .i64 x.cls,.bool x.cash,.bool x.both,.string x.fixed,.bool x.worn] 192))
   have HBN:=Lib.hid (hbox.keep ((Below.refl wr.heap.size wr).alloc (Nat.le_refl _) (.cells #[.string x.code,.int .i64 x.cls,.bool x.cash,.bool x.both,.string x.fixed,.bool x.worn] 192)) hsz)
   have HSZ:=Lib.hid hsz
   clear hx hbox hat
   cases hxe:(x.code.toList==code.toList) with
   | false =>
     have HXE:=Lib.hid ((Lib.bytes_beq_false_iff x.code code).1 hxe)
     go_wp2
     go_roundw
     case rel=>exact ⟨i+1,by omega,by go_num,HNX.out,by simp;omega,HBN.out,Lib.hid fun j y hj hy=>by
      rcases Nat.lt_or_ge j i with h | h
      ·exact HNO.out j y h hy
      ·obtain rfl:j=i:=by omega
       rw [HX.out] at hy;cases hy;exact HXE.out⟩
     case measure=>simp [intOf];omega
   | true =>
     have HXE:=Lib.hid ((Lib.bytes_beq_iff x.code code).1 hxe)
     have hres:Hid (r=some x):=Lib.hid (by rw [←HR.out];exact find_at HNO.out HX.out HXE.out)
     go_wp2_with (refine wpList_store_acct rfl 192 (.tmp 4) (.tmp 18) rfl w.heap.size zeroA x 192 rfl rfl HBN.out (by kernel_rfl) ?_;intro w2 hb2 hg2)
     have HF:=Lib.hid (HNX.out.grown hg2 HNX.out.size (fun j hj=>by cases hj;exact Nat.le_refl _))
     obtain ⟨d0,d1,d2,d3,d4,d5⟩:=hb2.facts
     clear hb2 hg2
     refine bodyPost_ret (v:=.tuple #[aggF x,.bool true]) (by simp [results,Tryz.results111,go_sem,d0,d1,d2,d3,d4,d5]) rfl ⟨?_,HF.out⟩
     rw [←HRV.out,←HSV.out,hres.out];rfl
  ·have hres:Hid (r=none):=Lib.hid (by
    rw [←HR.out]
    refine find_none fun j y hy=>HNO.out j y ?_ hy
    have:=(List.getElem?_eq_some_iff.1 hy).1
    rw [HN.out] at this;omega)
   have HNX:=Lib.hid hnx
   go_wp2_with (refine wpList_store_acct rfl 192 (.tmp 4) (.tmp 20) rfl w.heap.size zeroA zeroA 192 rfl rfl hbox (by kernel_rfl) ?_;intro w2 hb2 hg2)
   have HF:=Lib.hid (HNX.out.grown hg2 HNX.out.size (fun j hj=>by cases hj;exact Nat.le_refl _))
   obtain ⟨d0,d1,d2,d3,d4,d5⟩:=hb2.facts
   clear hb2 hg2
   refine bodyPost_ret (v:=.tuple #[aggF zeroA,.bool false]) (by simp [results,Tryz.results111,go_sem,d0,d1,d2,d3,d4,d5]) rfl ⟨?_,HF.out⟩
   rw [←HRV.out,←HSV.out,hres.out];rfl
end Go.Proofs.YthcpglnmhimepaaGreatDoor
end
section
namespace Go.Proofs.YthcpglnmhimepaaGreatDoor
open Go.RowKit
theorem ret_num {k:IntKind} {a b:Int} (h:a=b):Ending.returned (.int k a)=.returned (.int k b):=by rw [h]
set_option maxRecDepth 100000 in
set_option maxHeartbeats 2000000 in
theorem below_any (v:Value) (L:List Acct) (code:ByteArray) (w:World) (h:ChartV w v L) :
 Calls Tryz.prog 143 #[v,.string code] w fun e w'=>e=.returned (.int .i64 (belowL L code))∧Below w.heap.size w w':=by
 obtain ⟨a,c,rfl,hcap,hm,_,hc⟩:=h
 obtain ⟨n,hn⟩:∃ n,L.length=n:=⟨_,rfl⟩
 obtain ⟨r,hr⟩:∃ r,belowL L code=r:=⟨_,rfl⟩
 rw [hn] at hcap ⊢
 rw [hr]
 have HC:=Lib.hid hc
 have HN:=Lib.hid hn
 have HR:=Lib.hid hr
 unfold maxLen at hm
 clear hc hn hr
 go_enter Tryz.func143,Tryz.ntmps143
 go_wp2
 go_loopw [9] (fun s9 wr=>∃ i:Nat,i≤n∧s9=.int .i64 (i:Int)∧Below w.heap.size w wr∧Hid (∀ (j:Nat) (y:Acct),j < i→L[j]?=some y→gtS y.code code=false)) (fun s9 _=>n - (intOf s9).toNat)
 case atStart=>exact ⟨0,Nat.zero_le _,rfl,Below.refl _ _,Lib.hid fun j y hj=>absurd hj (Nat.not_lt_zero _)⟩
 case round =>
  obtain ⟨i,hi,rfl,hnx,HNO⟩:=hrel
  by_cases hlt:i < n
  ·obtain ⟨x,hx⟩:∃ x,L[i]?=some x:=⟨_,List.getElem?_eq_getElem (by rw [HN.out];exact hlt)⟩
   obtain ⟨b,o,rfl,hat⟩:=HC.out i x hx
   obtain ⟨c0,c1,c2,c3,c4,c5⟩:=hat.keep hnx hat.lt
   have HX:=Lib.hid hx
   have HNX:=Lib.hid (hnx.alloc hnx.size (.cells #[.string x.code,.int .i64 x.cls,.bool x.cash,.bool x.both,.string x.fixed,.bool x.worn] 192))
   clear hx hat
   cases hxe:gtS x.code code with
   | false =>
     have HXE:=Lib.hid hxe
     unfold gtS ltS at hxe
     simp only [Bool.not_eq_false'] at hxe
     go_wp2
     all_goals
      go_roundw
      case rel=>exact ⟨i+1,by omega,by go_num,HNX.out,Lib.hid fun j y hj hy=>by
       rcases Nat.lt_or_ge j i with h | h
       ·exact HNO.out j y h hy
       ·obtain rfl:j=i:=by omega
        rw [HX.out] at hy;cases hy;exact HXE.out⟩
      case measure=>simp [intOf];omega
   | true =>
     have HXE:=Lib.hid hxe
     have hres:Hid (r=i):=Lib.hid (by rw [←HR.out];exact below_at HNO.out HX.out HXE.out)
     unfold gtS ltS at hxe
     simp only [Bool.not_eq_true',Bool.or_eq_false_iff] at hxe
     obtain ⟨g1,g2⟩:=hxe
     go_wp2
     all_goals
      go_ret
      exact ⟨ret_num (by rw [hres.out]),HNX.out⟩
  ·have hres:Hid (r=n):=Lib.hid (by
    rw [←HR.out,←HN.out]
    refine below_none fun j y hy=>HNO.out j y ?_ hy
    have:=(List.getElem?_eq_some_iff.1 hy).1
    rw [HN.out] at this;omega)
   go_wp2
   go_ret
   exact ⟨ret_num (by rw [hres.out]),hnx⟩
end Go.Proofs.YthcpglnmhimepaaGreatDoor
end
section
namespace Go.Proofs.YthcpglnmhimepaaGreatDoor
open Go.RowKit
structure Laid (w:World):Prop where
 g0:w.cell? ⟨1,0,none⟩=some (.string tAsset)
 g1:w.cell? ⟨1,1,none⟩=some (.string tLiability)
 g2:w.cell? ⟨1,2,none⟩=some (.string tEquity)
theorem Laid.below {w w':World} {B:Nat} (h:Laid w) (hb:Below B w w') (hB:w.heap.size≤B):Laid w' :=
 have lt:=Nat.lt_of_lt_of_le (World.block_lt_of_cell? w _ h.g0) hB
 ⟨(hb.cell (p:=⟨_,0,none⟩) lt).trans h.g0,(hb.cell (p:=⟨_,1,none⟩) lt).trans h.g1,(hb.cell (p:=⟨_,2,none⟩) lt).trans h.g2⟩
theorem at_arr0 (w:World):(Instr.index 264 (.agg #[.string tAsset,.string tLiability,.string tEquity]) (.int .i64 0)).run Tryz.prog w=.ok (.string tAsset) w:=by kernel_rfl
theorem at_arr1 (w:World):(Instr.index 264 (.agg #[.string tAsset,.string tLiability,.string tEquity]) (.int .i64 1)).run Tryz.prog w=.ok (.string tLiability) w:=by kernel_rfl
theorem at_arr2 (w:World):(Instr.index 264 (.agg #[.string tAsset,.string tLiability,.string tEquity]) (.int .i64 2)).run Tryz.prog w=.ok (.string tEquity) w:=by kernel_rfl
theorem beqS (x y:ByteArray):(x.toList==y.toList)=decide (x=y):=by
 cases h:(x.toList==y.toList) with
 | true=>rw [decide_eq_true ((Lib.bytes_beq_iff x y).1 h)]
 | false=>rw [decide_eq_false ((Lib.bytes_beq_false_iff x y).1 h)]
set_option maxRecDepth 100000 in
set_option maxHeartbeats 2000000 in
theorem classOf_any (s:ByteArray) (w:World) (hL:Laid w) :
 Calls Tryz.prog 137 #[.string s] w fun e w'=>e=.returned (.int .i64 (clsOf s))∧w=w':=by
 obtain ⟨g0,g1,g2⟩:=hL
 obtain ⟨r,hr⟩:∃ r,clsOf s=r:=⟨_,rfl⟩
 rw [hr]
 have HR:=Lib.hid hr
 clear hr
 obtain ⟨A,hA⟩:∃ A,tAsset=A:=⟨_,rfl⟩
 obtain ⟨B,hB⟩:∃ B,tLiability=B:=⟨_,rfl⟩
 obtain ⟨C,hC⟩:∃ C,tEquity=C:=⟨_,rfl⟩
 have i0:=at_arr0
 have i1:=at_arr1
 have i2:=at_arr2
 rw [hA] at g0 i0 i1 i2
 rw [hB] at g1 i0 i1 i2
 rw [hC] at g2 i0 i1 i2
 have HA:=Lib.hid hA
 have HBB:=Lib.hid hB
 have HCC:=Lib.hid hC
 clear hA hB hC
 cases hs0:(A.toList==s.toList) with
 | true =>
   have HS:=Lib.hid ((Lib.bytes_beq_iff A s).1 hs0)
   go_enter Tryz.func137,Tryz.ntmps137
   go_wp2
   refine wp_loop_rounds 1 ?_
   rw [rounds_succ]
   go_wp2
   go_ret
   exact ⟨ret_num (by rw [←HR.out,←HS.out,←HA.out];decide),rfl⟩
 | false =>
   have HS:=Lib.hid ((Lib.bytes_beq_false_iff A s).1 hs0)
   cases hs1:(B.toList==s.toList) with
   | true =>
     have HS1:=Lib.hid ((Lib.bytes_beq_iff B s).1 hs1)
     go_enter Tryz.func137,Tryz.ntmps137
     go_wp2
     refine wp_loop_rounds 2 ?_
     rw [rounds_succ]
     go_wp2
     rw [rounds_succ]
     go_wp2
     go_ret
     exact ⟨ret_num (by rw [←HR.out,←HS1.out,←HBB.out];decide),rfl⟩
   | false =>
     have HS1:=Lib.hid ((Lib.bytes_beq_false_iff B s).1 hs1)
     cases hs2:(C.toList==s.toList) with
     | true =>
       have HS2:=Lib.hid ((Lib.bytes_beq_iff C s).1 hs2)
       go_enter Tryz.func137,Tryz.ntmps137
       go_wp2
       refine wp_loop_rounds 3 ?_
       rw [rounds_succ]
       go_wp2
       rw [rounds_succ]
       go_wp2
       rw [rounds_succ]
       go_wp2
       go_ret
       exact ⟨ret_num (by rw [←HR.out,←HS2.out,←HCC.out];decide),rfl⟩
     | false =>
       have HS2:=Lib.hid ((Lib.bytes_beq_false_iff C s).1 hs2)
       have hres:Hid (r=-1):=Lib.hid (by
        rw [←HR.out]
        have a0:s≠tAsset:=by rw [HA.out];exact fun e=>HS.out e.symm
        have a1:s≠tLiability:=by rw [HBB.out];exact fun e=>HS1.out e.symm
        have a2:s≠tEquity:=by rw [HCC.out];exact fun e=>HS2.out e.symm
        unfold clsOf
        rw [if_neg a0,if_neg a1,if_neg a2])
       go_enter Tryz.func137,Tryz.ntmps137
       go_wp2
       refine wp_loop_rounds 4 ?_
       rw [rounds_succ]
       go_wp2
       rw [rounds_succ]
       go_wp2
       rw [rounds_succ]
       go_wp2
       rw [rounds_succ]
       go_wp2
       go_ret
       exact ⟨ret_num hres.out.symm,rfl⟩
end Go.Proofs.YthcpglnmhimepaaGreatDoor
end
section
namespace Go.Proofs.YthcpglnmhimepaaGreatDoor
open Go.RowKit
theorem list_cash:tCash.toList=[99,97,115,104]:=by rw [ByteArray.toList_eq];rfl
theorem list_both:tMutual.toList=[109,117,116,117,97,108]:=by rw [ByteArray.toList_eq];rfl
theorem list_worn:tWorn.toList=[119,111,114,110]:=by rw [ByteArray.toList_eq];rfl
theorem beq_cash (x:ByteArray):(x.toList==[99,97,115,104])=decide (x=tCash):=by rw [←list_cash,beqS]
theorem beq_both (x:ByteArray):(x.toList==[109,117,116,117,97,108])=decide (x=tMutual):=by rw [←list_both,beqS]
theorem beq_worn (x:ByteArray):(x.toList==[119,111,114,110])=decide (x=tWorn):=by rw [←list_worn,beqS]
set_option maxRecDepth 100000 in
set_option maxHeartbeats 2000000 in
theorem marked_any (a:Acct) (v:Value) (ws:List ByteArray) (w:World) (h:StrsV w v ws) :
 Calls Tryz.prog 136 #[aggF a,v] w fun e w'=>e=.returned (aggF (markedA a ws))∧Below w.heap.size w w':=by
 obtain ⟨p,c,rfl,_,hm,hc⟩:=h
 obtain ⟨r,hr⟩:∃ r,markedA a ws=r:=⟨_,rfl⟩
 rw [hr]
 have HR:=Lib.hid hr
 clear hr
 unfold maxLen at hm
 have hc0:=hc
 clear hc
 match ws,hc0,hm,HR with
 | [],hc,hm,HR =>
   clear hc0 hc
   go_enter Tryz.func136,Tryz.ntmps136
   go_wp2
   refine bodyPost_ret (v:=.agg #[.string a.code,.int .i64 a.cls,.bool a.cash,.bool a.both,.string a.fixed,.bool a.worn]) (by simp [results,Tryz.results136,go_sem]) rfl ⟨?_,((Below.refl _ _).alloc (Nat.le_refl _) _).alloc (by simp) _⟩
   rw [←HR.out];rfl
 | [x],hc,hm,HR =>
   obtain ⟨b,o,rfl,d0⟩:=hc 0 x rfl
   have d:w.cell? ⟨b,o,none⟩=some (.string x):=d0
   clear d0
   clear hc0 hc
   have hlt:=World.block_lt_of_cell? w _ d
   go_enter Tryz.func136,Tryz.ntmps136
   go_wp2
   refine bodyPost_ret (v:=.agg #[.string a.code,.int .i64 a.cls,.bool (x.toList==[99,97,115,104]),.bool (x.toList==[109,117,116,117,97,108]),.string a.fixed,.bool a.worn]) (by simp [results,Tryz.results136,go_sem]) rfl ⟨?_,((Below.refl _ _).alloc (Nat.le_refl _) _).alloc (by simp) _⟩
   rw [←HR.out,beq_cash,beq_both];rfl
 | [x,y],hc,hm,HR =>
   obtain ⟨b,o,rfl,d0⟩:=hc 0 x rfl
   have d:w.cell? ⟨b,o,none⟩=some (.string x):=d0
   clear d0
   obtain ⟨b',o',e',d'⟩:=hc 1 y rfl
   cases e'
   have d2:w.cell? ⟨b,o+1,none⟩=some (.string y):=d'
   clear d'
   clear hc0 hc
   have hlt:=World.block_lt_of_cell? w _ d
   go_enter Tryz.func136,Tryz.ntmps136
   go_wp2
   refine bodyPost_ret (v:=.agg #[.string a.code,.int .i64 a.cls,.bool a.cash,.bool a.both,.string y,.bool (x.toList==[119,111,114,110])]) (by simp [results,Tryz.results136,go_sem]) rfl ⟨?_,((Below.refl _ _).alloc (Nat.le_refl _) _).alloc (by simp) _⟩
   rw [←HR.out,beq_worn];rfl
 | x::y::z::l,hc,hm,HR =>
   clear hc0 hc
   have h1:¬ ((l.length:Int)+1+1+1=1):=by omega
   go_enter Tryz.func136,Tryz.ntmps136
   go_wp2
   refine bodyPost_ret (v:=.agg #[.string a.code,.int .i64 a.cls,.bool a.cash,.bool a.both,.string a.fixed,.bool a.worn]) (by simp [results,Tryz.results136,go_sem]) rfl ⟨?_,((Below.refl _ _).alloc (Nat.le_refl _) _).alloc (by simp) _⟩
   rw [←HR.out];rfl
end Go.Proofs.YthcpglnmhimepaaGreatDoor
end
