/- ChartWords -/
import Derived.OwnWalk
import Derived.RegionTactic
import Derived.Test.YthcpglnmhimepaaGreatDoorS06
import Derived.Test.YthcpglnmhimepaaGreatDoorS15
namespace Go.Proofs.YthcpglnmhimepaaGreatDoor
open Go.RowKit
theorem info_str:(Tryz.prog.info? 9).map (fun i=>(i.zero,i.size,i.bytes))=some (some (.string ⟨#[]⟩),1,16):=by kernel_rfl
def WordsTold (w:World) (ws:List ByteArray) (e:Ending) (w':World):Prop:=∃ v,e=.returned v∧StrsV w' v ws∧Below w.heap.size w w'
theorem own_three (w:World) (x y z:ByteArray) (t:TypeId):(w.alloc (.cells #[.string x,.string y,.string z] t)).ownsRow w.heap.size t 1 (.slice (some ⟨w.heap.size,0,none⟩) 3 3) 3 ([x,y,z].map Value.string) :=
 ⟨rfl,.inr ⟨w.heap.size,3,_,rfl,Nat.le_refl _,heap_alloc_new w _,Nat.le_refl _,by unfold maxLen;omega,rfl,rfl⟩⟩
end Go.Proofs.YthcpglnmhimepaaGreatDoor
namespace Go.Proofs.YthcpglnmhimepaaGreatDoor.Ow
open Go.RowKit
def StrsOwned (w:World) (ws:List ByteArray) (e:Ending) (w':World):Prop:=∃ v,e=.returned v∧w'.ownsRow w.heap.size 9 1 v ws.length (ws.map Value.string)∧Below w.heap.size w w'
theorem own_words {W:World} {B B':Nat} {e:TypeId} {u:Value} {ws:List ByteArray} (h:W.ownsRow B e 1 u ws.length (ws.map Value.string)) (hB:B'≤B):W.ownsRow B' e 1 u ws.length (ws.map Value.string):=row_base h hB
set_option maxRecDepth 100000 in
set_option maxHeartbeats 4000000 in
theorem words_no (a:Acct) (w:World) (h:rightA a=false):Calls Tryz.prog 139 #[aggF a] w (StrsOwned w (wordsA a)):=by
 have HR:=Lib.hid (right_any a)
 rw [h] at HR
 rw [words_nil h]
 have HB:=Lib.hid ((Below.refl w.heap.size w).alloc (Nat.le_refl _) (.cells #[.string a.code,.int .i64 a.cls,.bool a.cash,.bool a.both,.string a.fixed,.bool a.worn] 192))
 clear h
 go_enter Tryz.func139,Tryz.ntmps139
 go_wp2_with fail
 refine (HR.out _).mono ?_
 rintro e w1 ⟨rfl,hb1⟩
 have HB1:=Lib.hid hb1
 clear hb1
 go_wp2
 go_ret
 exact ⟨_,rfl,World.ownsRow_nil _ _ _ _,HB.out.trans (HB1.out.mono HB.out.size)⟩
set_option maxRecDepth 100000 in
set_option maxHeartbeats 4000000 in
theorem words_plain (co:ByteArray) (cl:Int) (w:World) (hL:Laid w) (h:rightA ⟨co,cl,false,false,⟨#[]⟩,false⟩=true):Calls Tryz.prog 139 #[aggF ⟨co,cl,false,false,⟨#[]⟩,false⟩] w (StrsOwned w (wordsA ⟨co,cl,false,false,⟨#[]⟩,false⟩)):=by
 have HR:=Lib.hid (right_any ⟨co,cl,false,false,⟨#[]⟩,false⟩)
 rw [h] at HR
 have hcl:=(right_parts h).2.1
 simp only at hcl
 have HW:Hid (wordsA ⟨co,cl,false,false,⟨#[]⟩,false⟩=[tAccount,co,clsW cl]):=Lib.hid (by unfold wordsA;rw [if_pos h];simp [markW,neB_empty])
 rw [HW.out]
 obtain ⟨i0,hi,hz0,hz1,hz2⟩:=info_parts info_str
 have HI:=Lib.hid (And.intro hi (And.intro hz0 (And.intro hz1 hz2)))
 clear h HW hi hz0 hz1 hz2
 have HB:=Lib.hid ((Below.refl w.heap.size w).alloc (Nat.le_refl _) (.cells #[.string co,.int .i64 cl,.bool false,.bool false,.string ⟨#[]⟩,.bool false] 192))
 have HL0:=Lib.hid (hL.below HB.out (Nat.le_refl _))
 have HX0:=Lib.hid (BoxA.new w ⟨co,cl,false,false,⟨#[]⟩,false⟩ 192)
 clear hL
 rcases hcl with rfl | rfl | rfl
 all_goals
  go_enter Tryz.func139,Tryz.ntmps139
  go_wp2_with fail
  refine (HR.out _).mono ?_
  rintro e w1 ⟨rfl,hb1⟩
  have HB1:=Lib.hid (HB.out.trans (hb1.mono HB.out.size))
  have hlt:w.heap.size < w1.heap.size:=by have:=hb1.size;simp at this;omega
  obtain ⟨g0,g1,g2⟩:=HL0.out.below hb1 (Nat.le_refl _)
  obtain ⟨c0,c1,c2,c3,c4,c5⟩:=(HX0.out.keep hb1 (by simp)).facts
  simp only at c0 c1 c2 c3 c4 c5
  clear hb1
  go_wp2
  go_region
  clear g0 g1 g2
  go_wp2
  go_ret
  exact ⟨_,rfl,row_base (own_three w1 tAccount _ _ _) HB1.out.size,below_drewN (HB1.out.alloc HB1.out.size _) 1⟩
set_option maxRecDepth 100000 in
set_option maxHeartbeats 4000000 in
theorem words_cash (co:ByteArray) (w:World) (hL:Laid w) (h:rightA ⟨co,0,true,false,⟨#[]⟩,false⟩=true):Calls Tryz.prog 139 #[aggF ⟨co,0,true,false,⟨#[]⟩,false⟩] w (StrsOwned w (wordsA ⟨co,0,true,false,⟨#[]⟩,false⟩)):=by
 have HR:=Lib.hid (right_any ⟨co,0,true,false,⟨#[]⟩,false⟩)
 rw [h] at HR
 have HW:Hid (wordsA ⟨co,0,true,false,⟨#[]⟩,false⟩=[tAccount,co,tAsset,tCash]):=Lib.hid (by unfold wordsA;rw [if_pos h];simp [markW,clsW])
 rw [HW.out]
 obtain ⟨i0,hi,hz0,hz1,hz2⟩:=info_parts info_str
 have HI:=Lib.hid (And.intro hi (And.intro hz0 (And.intro hz1 hz2)))
 clear h HW hi hz0 hz1 hz2
 have HB:=Lib.hid ((Below.refl w.heap.size w).alloc (Nat.le_refl _) (.cells #[.string co,.int .i64 0,.bool true,.bool false,.string ⟨#[]⟩,.bool false] 192))
 have HL0:=Lib.hid (hL.below HB.out (Nat.le_refl _))
 have HX0:=Lib.hid (BoxA.new w ⟨co,0,true,false,⟨#[]⟩,false⟩ 192)
 clear hL
 go_enter Tryz.func139,Tryz.ntmps139
 go_wp2_with fail
 refine (HR.out _).mono ?_
 rintro e w1 ⟨rfl,hb1⟩
 have HB1:=Lib.hid (HB.out.trans (hb1.mono HB.out.size))
 have hlt:w.heap.size < w1.heap.size:=by have:=hb1.size;simp at this;omega
 obtain ⟨g0,g1,g2⟩:=HL0.out.below hb1 (Nat.le_refl _)
 obtain ⟨c0,c1,c2,c3,c4,c5⟩:=(HX0.out.keep hb1 (by simp)).facts
 simp only at c0 c1 c2 c3 c4 c5
 clear hb1
 go_wp2
 go_region
 clear g0 g1 g2
 go_wp2_with (at_builtin;refine wpList_append_own _ rfl _ _ 66 rfl w1.heap.size 9 i0 (.string ⟨#[]⟩) 1 16 Tryz.underlying66 HI.out.1 HI.out.2.1 HI.out.2.2.1 HI.out.2.2.2 rfl (by decide) _ 3 _ rfl ((own_three w1 tAccount _ _ _).alloc _) ⟨w1.heap.size+1,0,none⟩ 1 1 [.string tCash] rfl rfl (new_cells2 w1 _ [.string tCash] _) (by intro u hu;simp at hu;rcases hu with rfl <;> rfl) (by unfold maxLen;omega) (by omega) (by simp;omega) ?_;intro v' w2 hown' hgrow _)
 have HF:=Lib.hid (below_grown (below_drewN ((HB1.out.alloc HB1.out.size _).alloc (by have:=HB1.out.size;simp;omega) _) 1) (by have:=HB1.out.size;simp;omega) (row_base ((own_three w1 tAccount _ _ _).alloc _) HB1.out.size) hgrow)
 go_wp2
 go_ret
 exact ⟨_,rfl,own_words (ws:=[tAccount,co,tAsset,tCash]) hown' HB1.out.size,HF.out⟩
set_option maxRecDepth 100000 in
set_option maxHeartbeats 4000000 in
theorem words_both (co:ByteArray) (cl:Int) (w:World) (hL:Laid w) (h:rightA ⟨co,cl,false,true,⟨#[]⟩,false⟩=true) (h2:cl≠2):Calls Tryz.prog 139 #[aggF ⟨co,cl,false,true,⟨#[]⟩,false⟩] w (StrsOwned w (wordsA ⟨co,cl,false,true,⟨#[]⟩,false⟩)):=by
 have HR:=Lib.hid (right_any ⟨co,cl,false,true,⟨#[]⟩,false⟩)
 rw [h] at HR
 have hcl:=(right_parts h).2.1
 simp only at hcl
 have HW:Hid (wordsA ⟨co,cl,false,true,⟨#[]⟩,false⟩=[tAccount,co,clsW cl,tMutual]):=Lib.hid (by unfold wordsA;rw [if_pos h];simp [markW])
 rw [HW.out]
 obtain ⟨i0,hi,hz0,hz1,hz2⟩:=info_parts info_str
 have HI:=Lib.hid (And.intro hi (And.intro hz0 (And.intro hz1 hz2)))
 clear h HW hi hz0 hz1 hz2
 have HB:=Lib.hid ((Below.refl w.heap.size w).alloc (Nat.le_refl _) (.cells #[.string co,.int .i64 cl,.bool false,.bool true,.string ⟨#[]⟩,.bool false] 192))
 have HL0:=Lib.hid (hL.below HB.out (Nat.le_refl _))
 have HX0:=Lib.hid (BoxA.new w ⟨co,cl,false,true,⟨#[]⟩,false⟩ 192)
 clear hL
 rcases (by omega:cl=0∨cl=1) with rfl | rfl
 all_goals
  go_enter Tryz.func139,Tryz.ntmps139
  go_wp2_with fail
  refine (HR.out _).mono ?_
  rintro e w1 ⟨rfl,hb1⟩
  have HB1:=Lib.hid (HB.out.trans (hb1.mono HB.out.size))
  have hlt:w.heap.size < w1.heap.size:=by have:=hb1.size;simp at this;omega
  obtain ⟨g0,g1,g2⟩:=HL0.out.below hb1 (Nat.le_refl _)
  obtain ⟨c0,c1,c2,c3,c4,c5⟩:=(HX0.out.keep hb1 (by simp)).facts
  simp only at c0 c1 c2 c3 c4 c5
  clear hb1
  go_wp2
  go_region
  clear g0 g1 g2
  go_wp2_with (at_builtin;refine wpList_append_own _ rfl _ _ 66 rfl w1.heap.size 9 i0 (.string ⟨#[]⟩) 1 16 Tryz.underlying66 HI.out.1 HI.out.2.1 HI.out.2.2.1 HI.out.2.2.2 rfl (by decide) _ 3 _ rfl ((own_three w1 tAccount _ _ _).alloc _) ⟨w1.heap.size+1,0,none⟩ 1 1 [.string tMutual] rfl rfl (new_cells2 w1 _ [.string tMutual] _) (by intro u hu;simp at hu;rcases hu with rfl <;> rfl) (by unfold maxLen;omega) (by omega) (by simp;omega) ?_;intro v' w2 hown' hgrow _)
  have HF:=Lib.hid (below_grown (below_drewN ((HB1.out.alloc HB1.out.size _).alloc (by have:=HB1.out.size;simp;omega) _) 1) (by have:=HB1.out.size;simp;omega) (row_base ((own_three w1 tAccount _ _ _).alloc _) HB1.out.size) hgrow)
  go_wp2
  go_ret
  exact ⟨_,rfl,own_words (ws:=[tAccount,co,_,tMutual]) hown' HB1.out.size,HF.out⟩
set_option maxRecDepth 100000 in
set_option maxHeartbeats 4000000 in
theorem words_fixed (co fi:ByteArray) (w:World) (hL:Laid w) (h:rightA ⟨co,0,false,false,fi,false⟩=true) (hf:neB fi=true):Calls Tryz.prog 139 #[aggF ⟨co,0,false,false,fi,false⟩] w (StrsOwned w (wordsA ⟨co,0,false,false,fi,false⟩)):=by
 have HR:=Lib.hid (right_any ⟨co,0,false,false,fi,false⟩)
 rw [h] at HR
 have HW:Hid (wordsA ⟨co,0,false,false,fi,false⟩=[tAccount,co,tAsset,tFixed,fi]):=Lib.hid (by unfold wordsA;rw [if_pos h];simp [markW,clsW,hf])
 rw [HW.out]
 obtain ⟨i0,hi,hz0,hz1,hz2⟩:=info_parts info_str
 have HI:=Lib.hid (And.intro hi (And.intro hz0 (And.intro hz1 hz2)))
 clear h HW hi hz0 hz1 hz2
 have HB:=Lib.hid ((Below.refl w.heap.size w).alloc (Nat.le_refl _) (.cells #[.string co,.int .i64 0,.bool false,.bool false,.string fi,.bool false] 192))
 have HL0:=Lib.hid (hL.below HB.out (Nat.le_refl _))
 have HX0:=Lib.hid (BoxA.new w ⟨co,0,false,false,fi,false⟩ 192)
 clear hL
 have HN:=Lib.hid hf
 unfold neB at hf
 go_enter Tryz.func139,Tryz.ntmps139
 go_wp2_with fail
 refine (HR.out _).mono ?_
 rintro e w1 ⟨rfl,hb1⟩
 have HB1:=Lib.hid (HB.out.trans (hb1.mono HB.out.size))
 have hlt:w.heap.size < w1.heap.size:=by have:=hb1.size;simp at this;omega
 obtain ⟨g0,g1,g2⟩:=HL0.out.below hb1 (Nat.le_refl _)
 obtain ⟨c0,c1,c2,c3,c4,c5⟩:=(HX0.out.keep hb1 (by simp)).facts
 simp only at c0 c1 c2 c3 c4 c5
 clear hb1
 go_wp2
 go_region
 clear g0 g1 g2
 go_wp2_with (at_builtin;refine wpList_append_own _ rfl _ _ 66 rfl w1.heap.size 9 i0 (.string ⟨#[]⟩) 1 16 Tryz.underlying66 HI.out.1 HI.out.2.1 HI.out.2.2.1 HI.out.2.2.2 rfl (by decide) _ 3 _ rfl ((own_three w1 tAccount _ _ _).alloc _) ⟨w1.heap.size+1,0,none⟩ 2 2 [.string tFixed,.string fi] rfl rfl (new_cells2 w1 _ [.string tFixed,.string fi] _) (by intro u hu;simp at hu;rcases hu with rfl | rfl <;> rfl) (by unfold maxLen;omega) (by omega) (by simp;omega) ?_;intro v' w2 hown' hgrow _)
 have HF:=Lib.hid (below_grown (below_drewN ((HB1.out.alloc HB1.out.size _).alloc (by have:=HB1.out.size;simp;omega) _) 1) (by have:=HB1.out.size;simp;omega) (row_base ((own_three w1 tAccount _ _ _).alloc _) HB1.out.size) hgrow)
 go_wp2
 go_ret
 exact ⟨_,rfl,own_words (ws:=[tAccount,co,tAsset,tFixed,fi]) hown' HB1.out.size,HF.out⟩
set_option maxRecDepth 100000 in
set_option maxHeartbeats 4000000 in
theorem words_worn (co fi:ByteArray) (w:World) (hL:Laid w) (h:rightA ⟨co,0,false,false,fi,true⟩=true):Calls Tryz.prog 139 #[aggF ⟨co,0,false,false,fi,true⟩] w (StrsOwned w (wordsA ⟨co,0,false,false,fi,true⟩)):=by
 have HR:=Lib.hid (right_any ⟨co,0,false,false,fi,true⟩)
 rw [h] at HR
 have HW:Hid (wordsA ⟨co,0,false,false,fi,true⟩=[tAccount,co,tAsset,tWorn,fi]):=Lib.hid (by unfold wordsA;rw [if_pos h];simp [markW,clsW])
 rw [HW.out]
 obtain ⟨i0,hi,hz0,hz1,hz2⟩:=info_parts info_str
 have HI:=Lib.hid (And.intro hi (And.intro hz0 (And.intro hz1 hz2)))
 clear h HW hi hz0 hz1 hz2
 have HB:=Lib.hid ((Below.refl w.heap.size w).alloc (Nat.le_refl _) (.cells #[.string co,.int .i64 0,.bool false,.bool false,.string fi,.bool true] 192))
 have HL0:=Lib.hid (hL.below HB.out (Nat.le_refl _))
 have HX0:=Lib.hid (BoxA.new w ⟨co,0,false,false,fi,true⟩ 192)
 clear hL
 go_enter Tryz.func139,Tryz.ntmps139
 go_wp2_with fail
 refine (HR.out _).mono ?_
 rintro e w1 ⟨rfl,hb1⟩
 have HB1:=Lib.hid (HB.out.trans (hb1.mono HB.out.size))
 have hlt:w.heap.size < w1.heap.size:=by have:=hb1.size;simp at this;omega
 obtain ⟨g0,g1,g2⟩:=HL0.out.below hb1 (Nat.le_refl _)
 obtain ⟨c0,c1,c2,c3,c4,c5⟩:=(HX0.out.keep hb1 (by simp)).facts
 simp only at c0 c1 c2 c3 c4 c5
 clear hb1
 go_wp2
 go_region
 clear g0 g1 g2
 go_wp2_with (at_builtin;refine wpList_append_own _ rfl _ _ 66 rfl w1.heap.size 9 i0 (.string ⟨#[]⟩) 1 16 Tryz.underlying66 HI.out.1 HI.out.2.1 HI.out.2.2.1 HI.out.2.2.2 rfl (by decide) _ 3 _ rfl ((own_three w1 tAccount _ _ _).alloc _) ⟨w1.heap.size+1,0,none⟩ 2 2 [.string tWorn,.string fi] rfl rfl (new_cells2 w1 _ [.string tWorn,.string fi] _) (by intro u hu;simp at hu;rcases hu with rfl | rfl <;> rfl) (by unfold maxLen;omega) (by omega) (by simp;omega) ?_;intro v' w2 hown' hgrow _)
 have HF:=Lib.hid (below_grown (below_drewN ((HB1.out.alloc HB1.out.size _).alloc (by have:=HB1.out.size;simp;omega) _) 1) (by have:=HB1.out.size;simp;omega) (row_base ((own_three w1 tAccount _ _ _).alloc _) HB1.out.size) hgrow)
 go_wp2
 go_ret
 exact ⟨_,rfl,own_words (ws:=[tAccount,co,tAsset,tWorn,fi]) hown' HB1.out.size,HF.out⟩
theorem words_any (a:Acct) (w:World) (hL:Laid w):Calls Tryz.prog 139 #[aggF a] w (StrsOwned w (wordsA a)):=by
 cases h:rightA a with
 | false=>exact words_no a w h
 | true =>
   obtain ⟨co,cl,ca,mu,fi,wo⟩:=a
   rcases marks_ways (right_parts h).2.2 with ⟨e1,e2,e3,e4⟩ | ⟨e1,e2,e3,e4,e5⟩ | ⟨e1,e2,e3,e4,e5⟩ | ⟨e1,e2,e3,e6,e4,e5⟩ | ⟨e1,e2,e3,e6,e4,e5⟩ <;> simp only at e1 e2 e3 e4 <;> subst e1 e2 e4
   ·subst e3;exact words_plain co cl w hL h
   ·simp only at e5;subst e3 e5;exact words_cash co w hL h
   ·simp only at e5;subst e3;exact words_both co cl w hL h e5
   ·simp only at e5;subst e5;exact words_fixed co fi w hL h e6
   ·simp only at e5;subst e5;exact words_worn co fi w hL h
end Go.Proofs.YthcpglnmhimepaaGreatDoor.Ow
namespace Go.Proofs.YthcpglnmhimepaaGreatDoor
open Go.RowKit
theorem words_any (a:Acct) (w:World) (hL:Laid w):Calls Tryz.prog 139 #[aggF a] w (WordsTold w (wordsA a)):=by
 refine (Ow.words_any a w hL).mono ?_
 rintro e w' ⟨v,rfl,ho,hb⟩
 exact ⟨v,rfl,strs_of_own ho,hb⟩
end Go.Proofs.YthcpglnmhimepaaGreatDoor
