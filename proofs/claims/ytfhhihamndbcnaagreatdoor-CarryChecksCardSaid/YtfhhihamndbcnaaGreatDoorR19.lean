/- ChartMarked ChartWords ChartParse -/
import Derived.Deep.CutBlock
import Derived.Deep.DeepCutAuto
import Derived.Deep.RegionHeld3
import Derived.RegionTactic
import Derived.Test.YtfhhihamndbcnaaGreatDoorR11
import Derived.Test.YtfhhihamndbcnaaGreatDoorR13
section
namespace Go.Proofs.YtfhhihamndbcnaaGreatDoor
open Go.RowKit
theorem list_cash:tCash.toList=[99,97,115,104]:=by rw [ByteArray.toList_eq];rfl
theorem list_both:tMutual.toList=[109,117,116,117,97,108]:=by rw [ByteArray.toList_eq];rfl
theorem list_worn:tWorn.toList=[119,111,114,110]:=by rw [ByteArray.toList_eq];rfl
theorem beq_cash (x:ByteArray):(x.toList==[99,97,115,104])=decide (x=tCash):=by rw [←list_cash,beqS]
theorem beq_both (x:ByteArray):(x.toList==[109,117,116,117,97,108])=decide (x=tMutual):=by rw [←list_both,beqS]
theorem beq_worn (x:ByteArray):(x.toList==[119,111,114,110])=decide (x=tWorn):=by rw [←list_worn,beqS]
set_option maxRecDepth 100000 in
set_option maxHeartbeats 2000000 in
theorem marked_any (a:Acct) (v:Value) (ws:List ByteArray) (w:World) (h:StrsV w v ws) :
 Calls Tryz.prog 140 #[aggF a,v] w fun e w'=>e=.returned (aggF (markedA a ws))∧Below w.heap.size w w':=by
 obtain ⟨p,c,rfl,_,hm,hc⟩:=h
 obtain ⟨r,hr⟩:∃ r,markedA a ws=r:=⟨_,rfl⟩
 rw [hr]
 have HR:=Lib.hid hr
 clear hr
 unfold maxLen at hm
 have hc0:=hc
 clear hc
 match ws,hc0,hm,HR with
 | [],hc,hm,HR =>
   clear hc0 hc
   go_enter Tryz.func140,Tryz.ntmps140
   go_wp2
   refine bodyPost_ret (v:=.agg #[.string a.code,.int .i64 a.cls,.bool a.cash,.bool a.both,.string a.fixed,.bool a.worn]) (by simp [results,Tryz.results140,go_sem]) rfl ⟨?_,((Below.refl _ _).alloc (Nat.le_refl _) _).alloc (by simp) _⟩
   rw [←HR.out];rfl
 | [x],hc,hm,HR =>
   obtain ⟨b,o,rfl,d0⟩:=hc 0 x rfl
   have d:w.cell? ⟨b,o,none⟩=some (.string x):=d0
   clear d0
   clear hc0 hc
   have hlt:=World.block_lt_of_cell? w _ d
   go_enter Tryz.func140,Tryz.ntmps140
   go_wp2
   refine bodyPost_ret (v:=.agg #[.string a.code,.int .i64 a.cls,.bool (x.toList==[99,97,115,104]),.bool (x.toList==[109,117,116,117,97,108]),.string a.fixed,.bool a.worn]) (by simp [results,Tryz.results140,go_sem]) rfl ⟨?_,((Below.refl _ _).alloc (Nat.le_refl _) _).alloc (by simp) _⟩
   rw [←HR.out,beq_cash,beq_both];rfl
 | [x,y],hc,hm,HR =>
   obtain ⟨b,o,rfl,d0⟩:=hc 0 x rfl
   have d:w.cell? ⟨b,o,none⟩=some (.string x):=d0
   clear d0
   obtain ⟨b',o',e',d'⟩:=hc 1 y rfl
   cases e'
   have d2:w.cell? ⟨b,o+1,none⟩=some (.string y):=d'
   clear d'
   clear hc0 hc
   have hlt:=World.block_lt_of_cell? w _ d
   go_enter Tryz.func140,Tryz.ntmps140
   go_wp2
   refine bodyPost_ret (v:=.agg #[.string a.code,.int .i64 a.cls,.bool a.cash,.bool a.both,.string y,.bool (x.toList==[119,111,114,110])]) (by simp [results,Tryz.results140,go_sem]) rfl ⟨?_,((Below.refl _ _).alloc (Nat.le_refl _) _).alloc (by simp) _⟩
   rw [←HR.out,beq_worn];rfl
 | x::y::z::l,hc,hm,HR =>
   clear hc0 hc
   have h1:¬ ((l.length:Int)+1+1+1=1):=by omega
   go_enter Tryz.func140,Tryz.ntmps140
   go_wp2
   refine bodyPost_ret (v:=.agg #[.string a.code,.int .i64 a.cls,.bool a.cash,.bool a.both,.string a.fixed,.bool a.worn]) (by simp [results,Tryz.results140,go_sem]) rfl ⟨?_,((Below.refl _ _).alloc (Nat.le_refl _) _).alloc (by simp) _⟩
   rw [←HR.out];rfl
end Go.Proofs.YtfhhihamndbcnaaGreatDoor
end
section
namespace Go.Proofs.YtfhhihamndbcnaaGreatDoor
open Go.RowKit
theorem info_str:(Tryz.prog.info? 9).map (fun i=>(i.zero,i.size,i.bytes))=some (some (.string ⟨#[]⟩),1,16):=by kernel_rfl
def WordsTold (w:World) (ws:List ByteArray) (e:Ending) (w':World):Prop:=∃ v,e=.returned v∧StrsV w' v ws∧Below w.heap.size w w'
theorem own_three (w:World) (x y z:ByteArray) (t:TypeId):(w.alloc (.cells #[.string x,.string y,.string z] t)).ownsRow w.heap.size t 1 (.slice (some ⟨w.heap.size,0,none⟩) 3 3) 3 ([x,y,z].map Value.string) :=
 ⟨rfl,.inr ⟨w.heap.size,3,_,rfl,Nat.le_refl _,heap_alloc_new w _,Nat.le_refl _,by unfold maxLen;omega,rfl,rfl⟩⟩
end Go.Proofs.YtfhhihamndbcnaaGreatDoor
namespace Go.Proofs.YtfhhihamndbcnaaGreatDoor.Ow
open Go.RowKit
def StrsOwned (w:World) (ws:List ByteArray) (e:Ending) (w':World):Prop:=∃ v,e=.returned v∧w'.ownsRow w.heap.size 9 1 v ws.length (ws.map Value.string)∧Below w.heap.size w w'
theorem own_words {W:World} {B B':Nat} {e:TypeId} {u:Value} {ws:List ByteArray} (h:W.ownsRow B e 1 u ws.length (ws.map Value.string)) (hB:B'≤B):W.ownsRow B' e 1 u ws.length (ws.map Value.string):=row_base h hB
set_option maxRecDepth 100000 in
set_option maxHeartbeats 4000000 in
theorem words_no (a:Acct) (w:World) (h:rightA a=false):Calls Tryz.prog 143 #[aggF a] w (StrsOwned w (wordsA a)):=by
 have HR:=Lib.hid (right_any a)
 rw [h] at HR
 rw [words_nil h]
 have HB:=Lib.hid ((Below.refl w.heap.size w).alloc (Nat.le_refl _) (.cells #[.string a.code,.int .i64 a.cls,.bool a.cash,.bool a.both,.string a.fixed,.bool a.worn] 199))
 clear h
 go_enter Tryz.func143,Tryz.ntmps143
 go_wp2_with fail
 refine (HR.out _).mono ?_
 rintro e w1 ⟨rfl,hb1⟩
 have HB1:=Lib.hid hb1
 clear hb1
 go_wp2
 go_ret
 exact ⟨_,rfl,World.ownsRow_nil _ _ _ _,HB.out.trans (HB1.out.mono HB.out.size)⟩
set_option maxRecDepth 100000 in
set_option maxHeartbeats 4000000 in
theorem words_plain (co:ByteArray) (cl:Int) (w:World) (hL:Laid w) (h:rightA ⟨co,cl,false,false,⟨#[]⟩,false⟩=true):Calls Tryz.prog 143 #[aggF ⟨co,cl,false,false,⟨#[]⟩,false⟩] w (StrsOwned w (wordsA ⟨co,cl,false,false,⟨#[]⟩,false⟩)):=by
 have HR:=Lib.hid (right_any ⟨co,cl,false,false,⟨#[]⟩,false⟩)
 rw [h] at HR
 have hcl:=(right_parts h).2.1
 simp only at hcl
 have HW:Hid (wordsA ⟨co,cl,false,false,⟨#[]⟩,false⟩=[tAccount,co,clsW cl]):=Lib.hid (by unfold wordsA;rw [if_pos h];simp [markW,neB_empty])
 rw [HW.out]
 obtain ⟨i0,hi,hz0,hz1,hz2⟩:=info_parts info_str
 have HI:=Lib.hid (And.intro hi (And.intro hz0 (And.intro hz1 hz2)))
 clear h HW hi hz0 hz1 hz2
 have HB:=Lib.hid ((Below.refl w.heap.size w).alloc (Nat.le_refl _) (.cells #[.string co,.int .i64 cl,.bool false,.bool false,.string ⟨#[]⟩,.bool false] 199))
 have HL0:=Lib.hid (hL.below HB.out (Nat.le_refl _))
 have HX0:=Lib.hid (BoxA.new w ⟨co,cl,false,false,⟨#[]⟩,false⟩ 199)
 clear hL
 rcases hcl with rfl | rfl | rfl
 all_goals
  go_enter Tryz.func143,Tryz.ntmps143
  go_wp2_with fail
  refine (HR.out _).mono ?_
  rintro e w1 ⟨rfl,hb1⟩
  have HB1:=Lib.hid (HB.out.trans (hb1.mono HB.out.size))
  have hlt:w.heap.size < w1.heap.size:=by have:=hb1.size;simp at this;omega
  obtain ⟨g0,g1,g2⟩:=HL0.out.below hb1 (Nat.le_refl _)
  obtain ⟨c0,c1,c2,c3,c4,c5⟩:=(HX0.out.keep hb1 (by simp)).facts
  simp only at c0 c1 c2 c3 c4 c5
  clear hb1
  go_wp2
  go_region
  clear g0 g1 g2
  go_wp2
  go_ret
  exact ⟨_,rfl,row_base (own_three w1 tAccount _ _ _) HB1.out.size,below_drewN (HB1.out.alloc HB1.out.size _) 1⟩
set_option maxRecDepth 100000 in
set_option maxHeartbeats 4000000 in
theorem words_cash (co:ByteArray) (w:World) (hL:Laid w) (h:rightA ⟨co,0,true,false,⟨#[]⟩,false⟩=true):Calls Tryz.prog 143 #[aggF ⟨co,0,true,false,⟨#[]⟩,false⟩] w (StrsOwned w (wordsA ⟨co,0,true,false,⟨#[]⟩,false⟩)):=by
 have HR:=Lib.hid (right_any ⟨co,0,true,false,⟨#[]⟩,false⟩)
 rw [h] at HR
 have HW:Hid (wordsA ⟨co,0,true,false,⟨#[]⟩,false⟩=[tAccount,co,tAsset,tCash]):=Lib.hid (by unfold wordsA;rw [if_pos h];simp [markW,clsW])
 rw [HW.out]
 obtain ⟨i0,hi,hz0,hz1,hz2⟩:=info_parts info_str
 have HI:=Lib.hid (And.intro hi (And.intro hz0 (And.intro hz1 hz2)))
 clear h HW hi hz0 hz1 hz2
 have HB:=Lib.hid ((Below.refl w.heap.size w).alloc (Nat.le_refl _) (.cells #[.string co,.int .i64 0,.bool true,.bool false,.string ⟨#[]⟩,.bool false] 199))
 have HL0:=Lib.hid (hL.below HB.out (Nat.le_refl _))
 have HX0:=Lib.hid (BoxA.new w ⟨co,0,true,false,⟨#[]⟩,false⟩ 199)
 clear hL
 go_enter Tryz.func143,Tryz.ntmps143
 go_wp2_with fail
 refine (HR.out _).mono ?_
 rintro e w1 ⟨rfl,hb1⟩
 have HB1:=Lib.hid (HB.out.trans (hb1.mono HB.out.size))
 have hlt:w.heap.size < w1.heap.size:=by have:=hb1.size;simp at this;omega
 obtain ⟨g0,g1,g2⟩:=HL0.out.below hb1 (Nat.le_refl _)
 obtain ⟨c0,c1,c2,c3,c4,c5⟩:=(HX0.out.keep hb1 (by simp)).facts
 simp only at c0 c1 c2 c3 c4 c5
 clear hb1
 go_wp2
 go_region
 clear g0 g1 g2
 go_wp2_with (at_builtin;refine wpList_append_own _ rfl _ _ 102 rfl w1.heap.size 9 i0 (.string ⟨#[]⟩) 1 16 Tryz.underlying102 HI.out.1 HI.out.2.1 HI.out.2.2.1 HI.out.2.2.2 rfl (by decide) _ 3 _ rfl ((own_three w1 tAccount _ _ _).alloc _) ⟨w1.heap.size+1,0,none⟩ 1 1 [.string tCash] rfl rfl (new_cells2 w1 _ [.string tCash] _) (by intro u hu;simp at hu;rcases hu with rfl <;> rfl) (by unfold maxLen;omega) (by omega) (by simp;omega) ?_;intro v' w2 hown' hgrow _)
 have HF:=Lib.hid (below_grown (below_drewN ((HB1.out.alloc HB1.out.size _).alloc (by have:=HB1.out.size;simp;omega) _) 1) (by have:=HB1.out.size;simp;omega) (row_base ((own_three w1 tAccount _ _ _).alloc _) HB1.out.size) hgrow)
 go_wp2
 go_ret
 exact ⟨_,rfl,own_words (ws:=[tAccount,co,tAsset,tCash]) hown' HB1.out.size,HF.out⟩
set_option maxRecDepth 100000 in
set_option maxHeartbeats 4000000 in
theorem words_both (co:ByteArray) (cl:Int) (w:World) (hL:Laid w) (h:rightA ⟨co,cl,false,true,⟨#[]⟩,false⟩=true) (h2:cl≠2):Calls Tryz.prog 143 #[aggF ⟨co,cl,false,true,⟨#[]⟩,false⟩] w (StrsOwned w (wordsA ⟨co,cl,false,true,⟨#[]⟩,false⟩)):=by
 have HR:=Lib.hid (right_any ⟨co,cl,false,true,⟨#[]⟩,false⟩)
 rw [h] at HR
 have hcl:=(right_parts h).2.1
 simp only at hcl
 have HW:Hid (wordsA ⟨co,cl,false,true,⟨#[]⟩,false⟩=[tAccount,co,clsW cl,tMutual]):=Lib.hid (by unfold wordsA;rw [if_pos h];simp [markW])
 rw [HW.out]
 obtain ⟨i0,hi,hz0,hz1,hz2⟩:=info_parts info_str
 have HI:=Lib.hid (And.intro hi (And.intro hz0 (And.intro hz1 hz2)))
 clear h HW hi hz0 hz1 hz2
 have HB:=Lib.hid ((Below.refl w.heap.size w).alloc (Nat.le_refl _) (.cells #[.string co,.int .i64 cl,.bool false,.bool true,.string ⟨#[]⟩,.bool false] 199))
 have HL0:=Lib.hid (hL.below HB.out (Nat.le_refl _))
 have HX0:=Lib.hid (BoxA.new w ⟨co,cl,false,true,⟨#[]⟩,false⟩ 199)
 clear hL
 rcases (by omega:cl=0∨cl=1) with rfl | rfl
 all_goals
  go_enter Tryz.func143,Tryz.ntmps143
  go_wp2_with fail
  refine (HR.out _).mono ?_
  rintro e w1 ⟨rfl,hb1⟩
  have HB1:=Lib.hid (HB.out.trans (hb1.mono HB.out.size))
  have hlt:w.heap.size < w1.heap.size:=by have:=hb1.size;simp at this;omega
  obtain ⟨g0,g1,g2⟩:=HL0.out.below hb1 (Nat.le_refl _)
  obtain ⟨c0,c1,c2,c3,c4,c5⟩:=(HX0.out.keep hb1 (by simp)).facts
  simp only at c0 c1 c2 c3 c4 c5
  clear hb1
  go_wp2
  go_region
  clear g0 g1 g2
  go_wp2_with (at_builtin;refine wpList_append_own _ rfl _ _ 102 rfl w1.heap.size 9 i0 (.string ⟨#[]⟩) 1 16 Tryz.underlying102 HI.out.1 HI.out.2.1 HI.out.2.2.1 HI.out.2.2.2 rfl (by decide) _ 3 _ rfl ((own_three w1 tAccount _ _ _).alloc _) ⟨w1.heap.size+1,0,none⟩ 1 1 [.string tMutual] rfl rfl (new_cells2 w1 _ [.string tMutual] _) (by intro u hu;simp at hu;rcases hu with rfl <;> rfl) (by unfold maxLen;omega) (by omega) (by simp;omega) ?_;intro v' w2 hown' hgrow _)
  have HF:=Lib.hid (below_grown (below_drewN ((HB1.out.alloc HB1.out.size _).alloc (by have:=HB1.out.size;simp;omega) _) 1) (by have:=HB1.out.size;simp;omega) (row_base ((own_three w1 tAccount _ _ _).alloc _) HB1.out.size) hgrow)
  go_wp2
  go_ret
  exact ⟨_,rfl,own_words (ws:=[tAccount,co,_,tMutual]) hown' HB1.out.size,HF.out⟩
set_option maxRecDepth 100000 in
set_option maxHeartbeats 4000000 in
theorem words_fixed (co fi:ByteArray) (w:World) (hL:Laid w) (h:rightA ⟨co,0,false,false,fi,false⟩=true) (hf:neB fi=true):Calls Tryz.prog 143 #[aggF ⟨co,0,false,false,fi,false⟩] w (StrsOwned w (wordsA ⟨co,0,false,false,fi,false⟩)):=by
 have HR:=Lib.hid (right_any ⟨co,0,false,false,fi,false⟩)
 rw [h] at HR
 have HW:Hid (wordsA ⟨co,0,false,false,fi,false⟩=[tAccount,co,tAsset,tFixed,fi]):=Lib.hid (by unfold wordsA;rw [if_pos h];simp [markW,clsW,hf])
 rw [HW.out]
 obtain ⟨i0,hi,hz0,hz1,hz2⟩:=info_parts info_str
 have HI:=Lib.hid (And.intro hi (And.intro hz0 (And.intro hz1 hz2)))
 clear h HW hi hz0 hz1 hz2
 have HB:=Lib.hid ((Below.refl w.heap.size w).alloc (Nat.le_refl _) (.cells #[.string co,.int .i64 0,.bool false,.bool false,.string fi,.bool false] 199))
 have HL0:=Lib.hid (hL.below HB.out (Nat.le_refl _))
 have HX0:=Lib.hid (BoxA.new w ⟨co,0,false,false,fi,false⟩ 199)
 clear hL
 have HN:=Lib.hid hf
 unfold neB at hf
 go_enter Tryz.func143,Tryz.ntmps143
 go_wp2_with fail
 refine (HR.out _).mono ?_
 rintro e w1 ⟨rfl,hb1⟩
 have HB1:=Lib.hid (HB.out.trans (hb1.mono HB.out.size))
 have hlt:w.heap.size < w1.heap.size:=by have:=hb1.size;simp at this;omega
 obtain ⟨g0,g1,g2⟩:=HL0.out.below hb1 (Nat.le_refl _)
 obtain ⟨c0,c1,c2,c3,c4,c5⟩:=(HX0.out.keep hb1 (by simp)).facts
 simp only at c0 c1 c2 c3 c4 c5
 clear hb1
 go_wp2
 go_region
 clear g0 g1 g2
 go_wp2_with (at_builtin;refine wpList_append_own _ rfl _ _ 102 rfl w1.heap.size 9 i0 (.string ⟨#[]⟩) 1 16 Tryz.underlying102 HI.out.1 HI.out.2.1 HI.out.2.2.1 HI.out.2.2.2 rfl (by decide) _ 3 _ rfl ((own_three w1 tAccount _ _ _).alloc _) ⟨w1.heap.size+1,0,none⟩ 2 2 [.string tFixed,.string fi] rfl rfl (new_cells2 w1 _ [.string tFixed,.string fi] _) (by intro u hu;simp at hu;rcases hu with rfl | rfl <;> rfl) (by unfold maxLen;omega) (by omega) (by simp;omega) ?_;intro v' w2 hown' hgrow _)
 have HF:=Lib.hid (below_grown (below_drewN ((HB1.out.alloc HB1.out.size _).alloc (by have:=HB1.out.size;simp;omega) _) 1) (by have:=HB1.out.size;simp;omega) (row_base ((own_three w1 tAccount _ _ _).alloc _) HB1.out.size) hgrow)
 go_wp2
 go_ret
 exact ⟨_,rfl,own_words (ws:=[tAccount,co,tAsset,tFixed,fi]) hown' HB1.out.size,HF.out⟩
set_option maxRecDepth 100000 in
set_option maxHeartbeats 4000000 in
theorem words_worn (co fi:ByteArray) (w:World) (hL:Laid w) (h:rightA ⟨co,0,false,false,fi,true⟩=true):Calls Tryz.prog 143 #[aggF ⟨co,0,false,false,fi,true⟩] w (StrsOwned w (wordsA ⟨co,0,false,false,fi,true⟩)):=by
 have HR:=Lib.hid (right_any ⟨co,0,false,false,fi,true⟩)
 rw [h] at HR
 have HW:Hid (wordsA ⟨co,0,false,false,fi,true⟩=[tAccount,co,tAsset,tWorn,fi]):=Lib.hid (by unfold wordsA;rw [if_pos h];simp [markW,clsW])
 rw [HW.out]
 obtain ⟨i0,hi,hz0,hz1,hz2⟩:=info_parts info_str
 have HI:=Lib.hid (And.intro hi (And.intro hz0 (And.intro hz1 hz2)))
 clear h HW hi hz0 hz1 hz2
 have HB:=Lib.hid ((Below.refl w.heap.size w).alloc (Nat.le_refl _) (.cells #[.string co,.int .i64 0,.bool false,.bool false,.string fi,.bool true] 199))
 have HL0:=Lib.hid (hL.below HB.out (Nat.le_refl _))
 have HX0:=Lib.hid (BoxA.new w ⟨co,0,false,false,fi,true⟩ 199)
 clear hL
 go_enter Tryz.func143,Tryz.ntmps143
 go_wp2_with fail
 refine (HR.out _).mono ?_
 rintro e w1 ⟨rfl,hb1⟩
 have HB1:=Lib.hid (HB.out.trans (hb1.mono HB.out.size))
 have hlt:w.heap.size < w1.heap.size:=by have:=hb1.size;simp at this;omega
 obtain ⟨g0,g1,g2⟩:=HL0.out.below hb1 (Nat.le_refl _)
 obtain ⟨c0,c1,c2,c3,c4,c5⟩:=(HX0.out.keep hb1 (by simp)).facts
 simp only at c0 c1 c2 c3 c4 c5
 clear hb1
 go_wp2
 go_region
 clear g0 g1 g2
 go_wp2_with (at_builtin;refine wpList_append_own _ rfl _ _ 102 rfl w1.heap.size 9 i0 (.string ⟨#[]⟩) 1 16 Tryz.underlying102 HI.out.1 HI.out.2.1 HI.out.2.2.1 HI.out.2.2.2 rfl (by decide) _ 3 _ rfl ((own_three w1 tAccount _ _ _).alloc _) ⟨w1.heap.size+1,0,none⟩ 2 2 [.string tWorn,.string fi] rfl rfl (new_cells2 w1 _ [.string tWorn,.string fi] _) (by intro u hu;simp at hu;rcases hu with rfl | rfl <;> rfl) (by unfold maxLen;omega) (by omega) (by simp;omega) ?_;intro v' w2 hown' hgrow _)
 have HF:=Lib.hid (below_grown (below_drewN ((HB1.out.alloc HB1.out.size _).alloc (by have:=HB1.out.size;simp;omega) _) 1) (by have:=HB1.out.size;simp;omega) (row_base ((own_three w1 tAccount _ _ _).alloc _) HB1.out.size) hgrow)
 go_wp2
 go_ret
 exact ⟨_,rfl,own_words (ws:=[tAccount,co,tAsset,tWorn,fi]) hown' HB1.out.size,HF.out⟩
theorem words_any (a:Acct) (w:World) (hL:Laid w):Calls Tryz.prog 143 #[aggF a] w (StrsOwned w (wordsA a)):=by
 cases h:rightA a with
 | false=>exact words_no a w h
 | true =>
   obtain ⟨co,cl,ca,mu,fi,wo⟩:=a
   rcases marks_ways (right_parts h).2.2 with ⟨e1,e2,e3,e4⟩ | ⟨e1,e2,e3,e4,e5⟩ | ⟨e1,e2,e3,e4,e5⟩ | ⟨e1,e2,e3,e6,e4,e5⟩ | ⟨e1,e2,e3,e6,e4,e5⟩ <;> simp only at e1 e2 e3 e4 <;> subst e1 e2 e4
   ·subst e3;exact words_plain co cl w hL h
   ·simp only at e5;subst e3 e5;exact words_cash co w hL h
   ·simp only at e5;subst e3;exact words_both co cl w hL h e5
   ·simp only at e5;subst e5;exact words_fixed co fi w hL h e6
   ·simp only at e5;subst e5;exact words_worn co fi w hL h
end Go.Proofs.YtfhhihamndbcnaaGreatDoor.Ow
namespace Go.Proofs.YtfhhihamndbcnaaGreatDoor
open Go.RowKit
theorem words_any (a:Acct) (w:World) (hL:Laid w):Calls Tryz.prog 143 #[aggF a] w (WordsTold w (wordsA a)):=by
 refine (Ow.words_any a w hL).mono ?_
 rintro e w' ⟨v,rfl,ho,hb⟩
 exact ⟨v,rfl,strs_of_own ho,hb⟩
end Go.Proofs.YtfhhihamndbcnaaGreatDoor
end
section
namespace Go.Proofs.YtfhhihamndbcnaaGreatDoor
open Go.RowKit
theorem strs_tail {P:Program} {t:TypeId} (ht:P.underlying t=some (.slice (P.elem t))) (hs:∀ w,(sizeOf (P.elem t)).run P w=.ok 1 w) {w:World} {p:Option Addr} {n c k:Nat} {ws:List ByteArray}
 (h:StrsV w (.slice p n c) ws) (hk:k≤n):∃ v,(∀ w',(Instr.slice t (.slice p n c) (some (.int .i64 (k:Int))) none none).run P w'=.ok v w')∧StrsV w v (ws.drop k):=by
 obtain ⟨p',c',e,h1,h2,hc⟩:=h
 injection e with e1 e2 e3
 subst e1 e2 e3
 refine ⟨sliced p k ws.length c 1,fun w'=>?_,?_⟩
 ·rw [run_slice_l w' t p _ c ht .i64 (k:Int) (by omega) (by omega),hs];simp [Result.andThen]
 ·cases p with
  | none =>
    refine ⟨none,c - k,by simp [sliced],by simp;omega,by simp;omega,fun i x hx=>?_⟩
    rw [List.getElem?_drop] at hx
    obtain ⟨b,o,e,_⟩:=hc _ x hx
    cases e
  | some ad =>
    by_cases hck:c=k
    ·subst hck
     refine ⟨some ad,0,by simp [sliced],by simp;omega,by simp;omega,fun i x hx=>?_⟩
     rw [List.getElem?_drop] at hx
     have:=(List.getElem?_eq_some_iff.1 hx).1
     omega
    ·refine ⟨some (ad.add k),c - k,by simp [sliced,hck],by simp;omega,by simp;omega,fun i x hx=>?_⟩
     rw [List.getElem?_drop] at hx
     obtain ⟨b,o,e,h3⟩:=hc _ x hx
     cases e
     exact ⟨b,o+k,by rw [add_off],by rw [Nat.add_assoc];exact h3⟩
theorem tail_u:Tryz.prog.underlying 102=some (.slice (Tryz.prog.elem 102)):=by kernel_rfl
theorem tail_s (w:World):(sizeOf (Tryz.prog.elem 102)).run Tryz.prog w=.ok 1 w:=by kernel_rfl
abbrev put6 (w:World) (g:Nat) (a:Acct):World :=
 (((((w.setCell ⟨g,0,none⟩ (.string a.code)).setCell ⟨g,1,none⟩ (.int .i64 a.cls)).setCell ⟨g,2,none⟩ (.bool a.cash)).setCell ⟨g,3,none⟩ (.bool a.both)).setCell ⟨g,4,none⟩ (.string a.fixed)).setCell ⟨g,5,none⟩ (.bool a.worn)
theorem put6_eq {w:World} {g:Nat} {t:TypeId} {z:Acct} (h:BoxA w g t z) (a:Acct):put6 w g a=w.setRow g #[.string a.code,.int .i64 a.cls,.bool a.cash,.bool a.both,.string a.fixed,.bool a.worn]:=by
 unfold BoxA at h
 unfold put6
 rw [setCell_eq_setRow w g 0 _ t (0,0) _ h,
  setCell_eq_setRow _ g 1 _ t (0,0) _ (setRow_heap w g _ _ t _ h),setRow_setRow,
  setCell_eq_setRow _ g 2 _ t (0,0) _ (setRow_heap w g _ _ t _ h),setRow_setRow,
  setCell_eq_setRow _ g 3 _ t (0,0) _ (setRow_heap w g _ _ t _ h),setRow_setRow,
  setCell_eq_setRow _ g 4 _ t (0,0) _ (setRow_heap w g _ _ t _ h),setRow_setRow,
  setCell_eq_setRow _ g 5 _ t (0,0) _ (setRow_heap w g _ _ t _ h),setRow_setRow]
 simp
theorem put6_box {w:World} {g:Nat} {t:TypeId} {z:Acct} (h:BoxA w g t z) (a:Acct):BoxA (put6 w g a) g t a∧w.grownBy (put6 w g a) (some g):=by
 rw [put6_eq h a];exact ⟨h.set a,grownBy_setRow w g _⟩
theorem BoxA.free {w:World} {b:Nat} {t:TypeId} {a:Acct} (h:BoxA w b t a) (o:Nat):w.frozen? ⟨b,o,none⟩=false:=by unfold BoxA at h;simp [World.frozen?,h]
abbrev zcells:Array Value:=#[.string ⟨#[]⟩,.int .i64 0,.bool false,.bool false,.string ⟨#[]⟩,.bool false]
theorem below_undrew {B:Nat} {w w':World} (h:Below B w.drew w'):Below B w w':=⟨h.os,h.tape,h.output,h.size,h.block⟩
def ParseAt (w wx:World) (g:Nat) (A:Acct):Prop:=BoxA wx g 199 A∧w.heap.size < g∧Below (w.heap.size+1) (w.alloc (.cells zcells 199)) wx
theorem parseAt_late {w W0 w5:World} {A M:Acct} (hW:w.alloc (.cells zcells 199)=W0) (hA:M=A) (hb5:Below W0.drew.heap.size W0.drew w5) :
 ParseAt w (w5.alloc (.cells #[.string M.code,.int .i64 M.cls,.bool M.cash,.bool M.both,.string M.fixed,.bool M.worn] 199)) w5.heap.size A:=by
 subst hA
 have hz:W0.heap.size=w.heap.size+1:=by rw [←hW];simp
 have hb:Below (w.heap.size+1) W0 w5:=by rw [←hz];exact below_undrew hb5
 refine ⟨BoxA.new w5 M _,?_,?_⟩
 ·have:=hb.size;omega
 ·rw [hW];exact hb.alloc (by have:=hb.size;omega) _
theorem parseAt_early {w W0 w5:World} {A M:Acct} (hW:w.alloc (.cells zcells 199)=W0) (hA:M=A) (hx:BoxA w5 W0.heap.size 199 zeroA) (hb5:Below (W0.alloc (.cells zcells 199)).drew.heap.size (W0.alloc (.cells zcells 199)).drew w5) :
 ParseAt w (put6 w5 W0.heap.size M) W0.heap.size A:=by
 subst hA
 have hz:W0.heap.size=w.heap.size+1:=by rw [←hW];simp
 have hb:Below W0.heap.size W0 w5:=((Below.refl W0.heap.size W0).alloc (Nat.le_refl _) _).trans ((below_undrew hb5).mono (by simp))
 obtain ⟨h1,h2⟩:=put6_box hx M
 refine ⟨h1,by omega,?_⟩
 rw [hW,←hz]
 exact hb.grown h2 hb.size (fun j hj=>by cases hj;exact Nat.le_refl _)
set_option maxRecDepth 100000 in
set_option maxHeartbeats 8000000 in
theorem parse_any (v:Value) (ws:List ByteArray) (w:World) (h:StrsV w v ws) (hL:Laid w) :
 Calls Tryz.prog 110 #[v] w fun e w'=>e=.returned (.tuple #[aggF (parseA ws).1,.int .i64 (parseA ws).2])∧Below w.heap.size w w':=by
 have HV:=Lib.hid h
 obtain ⟨p,c,rfl,hcap,hm,hc⟩:=h
 obtain ⟨n,hn⟩:∃ n,ws.length=n:=⟨_,rfl⟩
 rw [hn] at hcap hm HV ⊢
 unfold maxLen at hm
 have HB0:=Lib.hid ((Below.refl w.heap.size w).alloc (Nat.le_refl _) (.cells zcells 199))
 have HX0:=Lib.hid (BoxA.new w zeroA 199)
 by_cases h3:n < 3
 ·have hP:Hid (parseA ws=(zeroA,5)):=Lib.hid (by unfold parseA;rw [if_pos (by rw [hn];exact h3)])
  rw [hP.out]
  have H3:=Lib.hid h3
  clear hn hc
  go_enter Tryz.func110,Tryz.ntmps110
  go_wp2
  refine bodyPost_ret (v:=.tuple #[aggF zeroA,.int .i64 5]) (by simp [results,Tryz.results110,go_sem,zeroA]) rfl ⟨rfl,HB0.out⟩
 ·obtain ⟨A,hA⟩:∃ A,candA ws=A:=⟨_,rfl⟩
  obtain ⟨x1,hx1⟩:∃ x,ws[1]?=some x:=⟨_,List.getElem?_eq_getElem (by omega)⟩
  obtain ⟨x2,hx2⟩:∃ x,ws[2]?=some x:=⟨_,List.getElem?_eq_getElem (by omega)⟩
  obtain ⟨b,o,rfl,k1⟩:=hc 1 x1 hx1
  obtain ⟨b',o',e',k2⟩:=hc 2 x2 hx2
  cases e'
  obtain ⟨v3,hv3,hs3⟩:=strs_tail tail_u tail_s HV.out (k:=3) (by omega)
  have HA:Hid (markedA ⟨x1,clsOf x2,false,false,⟨#[]⟩,false⟩ (ws.drop 3)=A):=Lib.hid (by
   rw [←hA];unfold candA
   rw [List.getD_eq_getElem?_getD,List.getD_eq_getElem?_getD,hx1,hx2];rfl)
  have HP:Hid (parseA ws=if wordsA A=ws then (A,0) else (zeroA,5)):=Lib.hid (by unfold parseA;rw [if_neg (by rw [hn];exact h3),hA])
  obtain ⟨R,hR⟩:∃ R,parseA ws=R:=⟨_,rfl⟩
  rw [hR] at HP ⊢
  have HN:=Lib.hid hn
  have HL0:=Lib.hid (hL.below HB0.out (Nat.le_refl _))
  have HS0:=Lib.hid (hs3.keep HB0.out)
  have HV0:=Lib.hid (HV.out.keep HB0.out)
  have j1:=cell_later HB0.out k1
  have j2:=cell_later HB0.out k2
  clear hA hx1 hx2 hc hn hR hL k1 k2 hs3
  obtain ⟨W0,hW0⟩:∃ W0,w.alloc (.cells zcells 199)=W0:=⟨_,rfl⟩
  have HSZ:Hid (W0.heap.size=w.heap.size+1):=Lib.hid (by rw [←hW0];simp)
  have HX1:Hid (BoxA W0 w.heap.size 199 zeroA):=Lib.hid (by rw [←hW0];exact HX0.out)
  rw [hW0] at HB0 HL0 HS0 HV0 j1 j2
  clear HX0
  go_enter Tryz.func110,Tryz.ntmps110
  go_upto_region 3 with (fail)
  have HW0:=Lib.hid hW0
  clear hW0
  go_cut [4] (fun s4 wx=>∃ g,s4=.pointer (some ⟨g,0,none⟩)∧ParseAt w wx g A)
  case first =>
   have hv:∀ w',(Instr.slice 102 (.slice (some ⟨b,o,none⟩) n c) (some (.int .i64 3)) none none).run Tryz.prog w'=.ok v3 w':=hv3
   clear hv3
   have l1:(1:Int) < (n:Int):=by omega
   have l2:(2:Int) < (n:Int):=by omega
   have n1:=cell_later ((Below.refl W0.heap.size W0).alloc (Nat.le_refl _) (.cells zcells 199)) j1
   have n2:=cell_later ((Below.refl W0.heap.size W0).alloc (Nat.le_refl _) (.cells zcells 199)) j2
   have y1:W0.drew.cell? ⟨b,o+1,none⟩=some (.string x1):=j1
   have y2:W0.drew.cell? ⟨b,o+2,none⟩=some (.string x2):=j2
   have z1:(W0.alloc (.cells zcells 199)).drew.cell? ⟨b,o+1,none⟩=some (.string x1):=n1
   have z2:(W0.alloc (.cells zcells 199)).drew.cell? ⟨b,o+2,none⟩=some (.string x2):=n2
   have HLa:=Lib.hid (HL0.out.below ((Below.refl W0.heap.size W0).alloc (Nat.le_refl _) (.cells zcells 199)) (Nat.le_refl _))
   have HSa:=Lib.hid (HS0.out.keep ((Below.refl W0.heap.size W0).alloc (Nat.le_refl _) (.cells zcells 199)))
   have HNE:Hid (some b≠some W0.heap.size):=Lib.hid (fun e=>World.new_ne W0 _ j1 (Option.some.inj e).symm)
   have HXa:=Lib.hid (BoxA.new W0 zeroA 199)
   go_region_held3 (fun w'=>w'.cell? ⟨b,o+1,none⟩=some (.string x1)∧w'.cell? ⟨b,o+2,none⟩=some (.string x2))
    (first | (with_reducible exact ⟨j1,j2⟩) | (with_reducible exact ⟨y1,y2⟩) | (with_reducible exact ⟨n1,n2⟩) | (with_reducible exact ⟨z1,z2⟩) | (with_reducible exact ⟨m1,m2⟩) | (with_reducible exact ⟨p1 _,p2 _⟩) | (with_reducible exact ⟨s1,s2⟩) | fail)
    (first
     | (go_at_call 141;refine (classOf_any x2 W0.drew ⟨HL0.out.g0,HL0.out.g1,HL0.out.g2⟩).mono ?_;rintro e w' ⟨rfl,rfl⟩)
     | (go_at_call 141;refine (classOf_any x2 (W0.alloc (.cells zcells 199)).drew ⟨HLa.out.g0,HLa.out.g1,HLa.out.g2⟩).mono ?_;rintro e w' ⟨rfl,rfl⟩)
     | (go_at_call 140;refine (marked_any ⟨x1,clsOf x2,false,false,⟨#[]⟩,false⟩ v3 (ws.drop 3) W0.drew HS0.out).mono ?_;rintro e w5 ⟨rfl,hb5⟩;have m1:=cell_later hb5 j1;have m2:=cell_later hb5 j2;have p1:=fun C:Array Value=>cell_later ((Below.refl w5.heap.size w5).alloc (Nat.le_refl _) (.cells C 199)) m1;have p2:=fun C:Array Value=>cell_later ((Below.refl w5.heap.size w5).alloc (Nat.le_refl _) (.cells C 199)) m2)
     | (go_at_call 140;refine (marked_any ⟨x1,clsOf x2,false,false,⟨#[]⟩,false⟩ v3 (ws.drop 3) (W0.alloc (.cells zcells 199)).drew HSa.out).mono ?_;rintro e w5 ⟨rfl,hb5⟩;have m1:=cell_later hb5 n1;have m2:=cell_later hb5 n2;have HX5:Hid (BoxA w5 W0.heap.size 199 zeroA):=Lib.hid (BoxA.keep (w:=(W0.alloc (.cells zcells 199)).drew) HXa.out hb5 (by simp));obtain ⟨d0,d1,d2,d3,d4,d5⟩:=HX5.out.facts;have f0:=HX5.out.free 0;have f1:=HX5.out.free 1;have f2:=HX5.out.free 2;have f3:=HX5.out.free 3;have f4:=HX5.out.free 4;have f5:=HX5.out.free 5;have s1:=(put6_box HX5.out (markedA ⟨x1,clsOf x2,false,false,⟨#[]⟩,false⟩ (ws.drop 3))).2.cell m1 HNE.out;have s2:=(put6_box HX5.out (markedA ⟨x1,clsOf x2,false,false,⟨#[]⟩,false⟩ (ws.drop 3))).2.cell m2 HNE.out)
     | fail)
   all_goals
    go_wp2_with fail
    go_meet
    case rel =>
     refine ⟨_,rfl,?_⟩
     first | (with_reducible exact parseAt_late HW0.out HA.out hb5) | (with_reducible exact parseAt_early HW0.out HA.out HX5.out hb5)
  case rest =>
   obtain ⟨g,rfl,hP⟩:=hcut
   rename World=>wx
   obtain ⟨hx,hg,hb⟩:=hP
   rw [HW0.out] at hb
   rw [←HSZ.out] at hb
   have HXR:=Lib.hid (HX1.out.keep hb (by rw [HSZ.out];omega))
   have HBX:=Lib.hid (HB0.out.trans (hb.mono (by rw [HSZ.out];omega)))
   have HLX:=Lib.hid (HL0.out.below hb (Nat.le_refl _))
   have HVX:=Lib.hid (HV0.out.keep hb)
   have HX:=Lib.hid hx
   obtain ⟨d0,d1,d2,d3,d4,d5⟩:=hx.facts
   have hlt:w.heap.size < wx.heap.size:=by have:=hb.size;rw [HSZ.out] at this;omega
   have hgx:g < wx.heap.size:=World.block_lt_of_cell? wx _ d0
   clear hx hb hv3 j1 j2
   go_wp2_with fail
   clear d0 d1 d2 d3 d4 d5
   refine (words_any A _ HLX.out).mono ?_
   rintro e w6 ⟨v6,rfl,hs6,hb6⟩
   have HS6:=Lib.hid hs6
   have HV6:=Lib.hid (HVX.out.keep hb6)
   have HXR6:=Lib.hid (HXR.out.keep hb6 hlt)
   have HX6:=Lib.hid (HX.out.keep hb6 hgx)
   have HB6:=Lib.hid (HBX.out.trans (hb6.mono HBX.out.size))
   clear hs6 hb6
   go_wp2_with fail
   refine (equal_any _ _ _ ws _ HS6.out HV6.out).mono ?_
   rintro e w7 ⟨rfl,q,hq⟩
   have HXR7:Hid (BoxA w7 w.heap.size 199 zeroA):=Lib.hid (by rw [hq];exact HXR6.out)
   have HX7:Hid (BoxA w7 g 199 A):=Lib.hid (by rw [hq];exact HX6.out)
   have HB7:Hid (Below w.heap.size w w7):=Lib.hid (by rw [hq];exact below_drewN HB6.out q)
   clear hq
   by_cases hw:wordsA A=ws
   ·have hsm:Hid (sameW (wordsA A) ws=true):=Lib.hid (decide_eq_true hw)
    have hRR:Hid (R=(A,0)):=Lib.hid (by rw [HP.out,if_pos hw])
    rw [hsm.out]
    clear hw
    obtain ⟨d0,d1,d2,d3,d4,d5⟩:=HX7.out.facts
    go_wp2_with (refine wpList_store_acct rfl 199 (.tmp 2) (.tmp 26) rfl w.heap.size zeroA A 199 rfl rfl HXR7.out (by kernel_rfl) ?_;intro w8 hb8 hg8)
    have HF:=Lib.hid (HB7.out.grown hg8 HB7.out.size (fun j hj=>by cases hj;exact Nat.le_refl _))
    obtain ⟨t0,t1,t2,t3,t4,t5⟩:=hb8.facts
    clear hb8 hg8
    refine bodyPost_ret (v:=.tuple #[aggF A,.int .i64 0]) (by simp [results,Tryz.results110,go_sem,t0,t1,t2,t3,t4,t5]) rfl ⟨by rw [hRR.out],HF.out⟩
   ·have hsm:Hid (sameW (wordsA A) ws=false):=Lib.hid (decide_eq_false hw)
    have hRR:Hid (R=(zeroA,5)):=Lib.hid (by rw [HP.out,if_neg hw])
    rw [hsm.out]
    clear hw
    go_wp2_with (refine wpList_store_acct rfl 199 (.tmp 2) (.tmp 25) rfl w.heap.size zeroA zeroA 199 rfl rfl HXR7.out (by kernel_rfl) ?_;intro w8 hb8 hg8)
    have HF:=Lib.hid (HB7.out.grown hg8 HB7.out.size (fun j hj=>by cases hj;exact Nat.le_refl _))
    obtain ⟨t0,t1,t2,t3,t4,t5⟩:=hb8.facts
    clear hb8 hg8
    refine bodyPost_ret (v:=.tuple #[aggF zeroA,.int .i64 5]) (by simp [results,Tryz.results110,go_sem,t0,t1,t2,t3,t4,t5]) rfl ⟨by rw [hRR.out],HF.out⟩
end Go.Proofs.YtfhhihamndbcnaaGreatDoor
end
