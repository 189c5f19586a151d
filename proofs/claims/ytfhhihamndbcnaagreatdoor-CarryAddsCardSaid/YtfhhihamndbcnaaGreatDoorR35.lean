/- ChartDocWords UnitDocBits ChartDocParse UnitDocAll -/
import Derived.Test.YtfhhihamndbcnaaGreatDoorR12
import Derived.Test.YtfhhihamndbcnaaGreatDoorR28
import Derived.Test.YtfhhihamndbcnaaGreatDoorR29
import Derived.Test.YtfhhihamndbcnaaGreatDoorR31
section
namespace Go.Proofs.YtfhhihamndbcnaaGreatDoor
open Go.RowKit
theorem own_three2 (w:World) (o:Obj) (x y z:ByteArray) (t:TypeId):((w.alloc o).alloc (.cells #[.string x,.string y,.string z] t)).ownsRow w.heap.size t 1 (.slice (some ⟨w.heap.size+1,0,none⟩) 3 3) 3 ([x,y,z].map Value.string):=by
 have:=own_three (w.alloc o) x y z t
 rw [World.size_alloc] at this
 exact row_base this (by omega)
end Go.Proofs.YtfhhihamndbcnaaGreatDoor
namespace Go.Proofs.YtfhhihamndbcnaaGreatDoor.Ow
open Go.RowKit
set_option maxRecDepth 100000 in
set_option maxHeartbeats 4000000 in
theorem rwords_no (a:Acct) (w:World) (h:rightA a=false):Calls Tryz.prog 124 #[aggF a] w (StrsOwned w (wordsA a)):=by
 have HR:=Lib.hid (rright_any a)
 rw [h] at HR
 rw [words_nil h]
 have HB:=Lib.hid ((Below.refl w.heap.size w).alloc (Nat.le_refl _) (.cells #[.string a.code,.int .i64 a.cls,.bool a.cash,.bool a.both,.string a.fixed,.bool a.worn] 172))
 clear h
 go_enter Tryz.func124,Tryz.ntmps124
 go_wp2_with fail
 refine (HR.out _).mono ?_
 rintro e w1 ⟨rfl,hb1⟩
 have HB1:=Lib.hid hb1
 clear hb1
 go_wp2
 go_ret
 exact ⟨_,rfl,World.ownsRow_nil _ _ _ _,HB.out.trans (HB1.out.mono HB.out.size)⟩
theorem new_cells3 (w:World) (o o2:Obj) (cs:List Value) (t:TypeId):∀ (j:Nat) u,cs[j]?=some u→(((w.alloc o).alloc o2).alloc (.cells cs.toArray t)).cell? ((⟨w.heap.size+1+1,0,none⟩:Addr).add j)=some u:=fun j u hj=>by
 have:=new_cells2 (w.alloc o) o2 cs t j u hj
 rwa [World.size_alloc] at this
set_option maxRecDepth 100000 in
set_option maxHeartbeats 4000000 in
theorem rwords_plain (co:ByteArray) (cl:Int) (w:World) (h:rightA ⟨co,cl,false,false,⟨#[]⟩,false⟩=true):Calls Tryz.prog 124 #[aggF ⟨co,cl,false,false,⟨#[]⟩,false⟩] w (StrsOwned w (wordsA ⟨co,cl,false,false,⟨#[]⟩,false⟩)):=by
 have HR:=Lib.hid (rright_any ⟨co,cl,false,false,⟨#[]⟩,false⟩)
 rw [h] at HR
 have hcl:=(right_parts h).2.1
 simp only at hcl
 have HW:Hid (wordsA ⟨co,cl,false,false,⟨#[]⟩,false⟩=[tAccount,co,clsW cl]):=Lib.hid (by unfold wordsA;rw [if_pos h];simp [markW,neB_empty])
 rw [HW.out]
 obtain ⟨i0,hi,hz0,hz1,hz2⟩:=info_parts info_str
 have HI:=Lib.hid (And.intro hi (And.intro hz0 (And.intro hz1 hz2)))
 clear h HW hi hz0 hz1 hz2
 have HB:=Lib.hid ((Below.refl w.heap.size w).alloc (Nat.le_refl _) (.cells #[.string co,.int .i64 cl,.bool false,.bool false,.string ⟨#[]⟩,.bool false] 172))
 have HX0:=Lib.hid (BoxA.new w ⟨co,cl,false,false,⟨#[]⟩,false⟩ 172)
 rcases hcl with rfl | rfl | rfl
 all_goals
  go_enter Tryz.func124,Tryz.ntmps124
  go_wp2_with fail
  refine (HR.out _).mono ?_
  rintro e w1 ⟨rfl,hb1⟩
  have HB1:=Lib.hid (HB.out.trans (hb1.mono HB.out.size))
  have hlt:w.heap.size < w1.heap.size:=by have:=hb1.size;simp at this;omega
  have HX1:=Lib.hid (HX0.out.keep hb1 (by simp))
  obtain ⟨c0,c1,c2,c3,c4,c5⟩:=HX1.out.facts
  simp only at c0 c1 c2 c3 c4 c5
  clear hb1
  go_wp2
  go_region
  go_wp2
  go_ret
  exact ⟨_,rfl,row_base (own_three2 w1 _ tAccount _ _ _) (by have:=HB1.out.size;omega),below_drewN ((HB1.out.alloc HB1.out.size _).alloc (by have:=HB1.out.size;simp;omega) _) 1⟩
set_option maxRecDepth 100000 in
set_option maxHeartbeats 4000000 in
theorem rwords_cash (co:ByteArray) (w:World) (h:rightA ⟨co,0,true,false,⟨#[]⟩,false⟩=true):Calls Tryz.prog 124 #[aggF ⟨co,0,true,false,⟨#[]⟩,false⟩] w (StrsOwned w (wordsA ⟨co,0,true,false,⟨#[]⟩,false⟩)):=by
 have HR:=Lib.hid (rright_any ⟨co,0,true,false,⟨#[]⟩,false⟩)
 rw [h] at HR
 have HW:Hid (wordsA ⟨co,0,true,false,⟨#[]⟩,false⟩=[tAccount,co,tAsset,tCash]):=Lib.hid (by unfold wordsA;rw [if_pos h];simp [markW,clsW])
 rw [HW.out]
 obtain ⟨i0,hi,hz0,hz1,hz2⟩:=info_parts info_str
 have HI:=Lib.hid (And.intro hi (And.intro hz0 (And.intro hz1 hz2)))
 clear h HW hi hz0 hz1 hz2
 have HB:=Lib.hid ((Below.refl w.heap.size w).alloc (Nat.le_refl _) (.cells #[.string co,.int .i64 0,.bool true,.bool false,.string ⟨#[]⟩,.bool false] 172))
 have HX0:=Lib.hid (BoxA.new w ⟨co,0,true,false,⟨#[]⟩,false⟩ 172)
 go_enter Tryz.func124,Tryz.ntmps124
 go_wp2_with fail
 refine (HR.out _).mono ?_
 rintro e w1 ⟨rfl,hb1⟩
 have HB1:=Lib.hid (HB.out.trans (hb1.mono HB.out.size))
 have hlt:w.heap.size < w1.heap.size:=by have:=hb1.size;simp at this;omega
 have HX1:=Lib.hid (HX0.out.keep hb1 (by simp))
 obtain ⟨c0,c1,c2,c3,c4,c5⟩:=HX1.out.facts
 simp only at c0 c1 c2 c3 c4 c5
 clear hb1
 go_wp2
 go_region
 go_wp2_with (at_builtin;refine wpList_append_own _ rfl _ _ 102 rfl w1.heap.size 9 i0 (.string ⟨#[]⟩) 1 16 Tryz.underlying102 HI.out.1 HI.out.2.1 HI.out.2.2.1 HI.out.2.2.2 rfl (by decide) _ 3 _ rfl ((own_three2 w1 _ tAccount _ _ _).alloc _) ⟨w1.heap.size+1+1,0,none⟩ 1 1 [.string tCash] rfl rfl (new_cells3 w1 _ _ [.string tCash] _) (by intro u hu;simp at hu;rcases hu with rfl <;> rfl) (by unfold maxLen;omega) (by omega) (by simp;omega) ?_;intro v' w2 hown' hgrow _;have HF1:=Lib.hid (below_grown (below_drewN ((((Below.refl w1.heap.size w1).alloc (Nat.le_refl _) _).alloc (by simp) _).alloc (by simp;omega) _) 1) (by simp;omega) ((own_three2 w1 _ tAccount _ _ _).alloc _) hgrow);obtain ⟨k0,k1,k2,k3,k4,k5⟩:=(HX1.out.keep HF1.out hlt).facts;simp only at k0 k1 k2 k3 k4 k5)
 have HF:=Lib.hid (HB1.out.trans (HF1.out.mono HB1.out.size))
 clear hgrow
 go_wp2
 go_ret
 exact ⟨_,rfl,own_words (ws:=[tAccount,co,tAsset,tCash]) hown' (by have:=HB1.out.size;omega),HF.out⟩
set_option maxRecDepth 100000 in
set_option maxHeartbeats 4000000 in
theorem rwords_both (co:ByteArray) (cl:Int) (w:World) (h:rightA ⟨co,cl,false,true,⟨#[]⟩,false⟩=true) (h2:cl≠2):Calls Tryz.prog 124 #[aggF ⟨co,cl,false,true,⟨#[]⟩,false⟩] w (StrsOwned w (wordsA ⟨co,cl,false,true,⟨#[]⟩,false⟩)):=by
 have HR:=Lib.hid (rright_any ⟨co,cl,false,true,⟨#[]⟩,false⟩)
 rw [h] at HR
 have hcl:=(right_parts h).2.1
 simp only at hcl
 have HW:Hid (wordsA ⟨co,cl,false,true,⟨#[]⟩,false⟩=[tAccount,co,clsW cl,tMutual]):=Lib.hid (by unfold wordsA;rw [if_pos h];simp [markW])
 rw [HW.out]
 obtain ⟨i0,hi,hz0,hz1,hz2⟩:=info_parts info_str
 have HI:=Lib.hid (And.intro hi (And.intro hz0 (And.intro hz1 hz2)))
 clear h HW hi hz0 hz1 hz2
 have HB:=Lib.hid ((Below.refl w.heap.size w).alloc (Nat.le_refl _) (.cells #[.string co,.int .i64 cl,.bool false,.bool true,.string ⟨#[]⟩,.bool false] 172))
 have HX0:=Lib.hid (BoxA.new w ⟨co,cl,false,true,⟨#[]⟩,false⟩ 172)
 rcases (by omega:cl=0∨cl=1) with rfl | rfl
 all_goals
  go_enter Tryz.func124,Tryz.ntmps124
  go_wp2_with fail
  refine (HR.out _).mono ?_
  rintro e w1 ⟨rfl,hb1⟩
  have HB1:=Lib.hid (HB.out.trans (hb1.mono HB.out.size))
  have hlt:w.heap.size < w1.heap.size:=by have:=hb1.size;simp at this;omega
  have HX1:=Lib.hid (HX0.out.keep hb1 (by simp))
  obtain ⟨c0,c1,c2,c3,c4,c5⟩:=HX1.out.facts
  simp only at c0 c1 c2 c3 c4 c5
  clear hb1
  go_wp2
  go_region
  go_wp2_with (at_builtin;refine wpList_append_own _ rfl _ _ 102 rfl w1.heap.size 9 i0 (.string ⟨#[]⟩) 1 16 Tryz.underlying102 HI.out.1 HI.out.2.1 HI.out.2.2.1 HI.out.2.2.2 rfl (by decide) _ 3 _ rfl ((own_three2 w1 _ tAccount _ _ _).alloc _) ⟨w1.heap.size+1+1,0,none⟩ 1 1 [.string tMutual] rfl rfl (new_cells3 w1 _ _ [.string tMutual] _) (by intro u hu;simp at hu;rcases hu with rfl <;> rfl) (by unfold maxLen;omega) (by omega) (by simp;omega) ?_;intro v' w2 hown' hgrow _;have HF1:=Lib.hid (below_grown (below_drewN ((((Below.refl w1.heap.size w1).alloc (Nat.le_refl _) _).alloc (by simp) _).alloc (by simp;omega) _) 1) (by simp;omega) ((own_three2 w1 _ tAccount _ _ _).alloc _) hgrow);obtain ⟨k0,k1,k2,k3,k4,k5⟩:=(HX1.out.keep HF1.out hlt).facts;simp only at k0 k1 k2 k3 k4 k5)
  have HF:=Lib.hid (HB1.out.trans (HF1.out.mono HB1.out.size))
  clear hgrow
  go_wp2
  go_ret
  exact ⟨_,rfl,own_words (ws:=[tAccount,co,_,tMutual]) hown' (by have:=HB1.out.size;omega),HF.out⟩
set_option maxRecDepth 100000 in
set_option maxHeartbeats 4000000 in
theorem rwords_fixed (co fi:ByteArray) (w:World) (h:rightA ⟨co,0,false,false,fi,false⟩=true) (hf:neB fi=true):Calls Tryz.prog 124 #[aggF ⟨co,0,false,false,fi,false⟩] w (StrsOwned w (wordsA ⟨co,0,false,false,fi,false⟩)):=by
 have HR:=Lib.hid (rright_any ⟨co,0,false,false,fi,false⟩)
 rw [h] at HR
 have HW:Hid (wordsA ⟨co,0,false,false,fi,false⟩=[tAccount,co,tAsset,tFixed,fi]):=Lib.hid (by unfold wordsA;rw [if_pos h];simp [markW,clsW,hf])
 rw [HW.out]
 obtain ⟨i0,hi,hz0,hz1,hz2⟩:=info_parts info_str
 have HI:=Lib.hid (And.intro hi (And.intro hz0 (And.intro hz1 hz2)))
 clear h HW hi hz0 hz1 hz2
 have HB:=Lib.hid ((Below.refl w.heap.size w).alloc (Nat.le_refl _) (.cells #[.string co,.int .i64 0,.bool false,.bool false,.string fi,.bool false] 172))
 have HX0:=Lib.hid (BoxA.new w ⟨co,0,false,false,fi,false⟩ 172)
 have HN:=Lib.hid hf
 unfold neB at hf
 go_enter Tryz.func124,Tryz.ntmps124
 go_wp2_with fail
 refine (HR.out _).mono ?_
 rintro e w1 ⟨rfl,hb1⟩
 have HB1:=Lib.hid (HB.out.trans (hb1.mono HB.out.size))
 have hlt:w.heap.size < w1.heap.size:=by have:=hb1.size;simp at this;omega
 have HX1:=Lib.hid (HX0.out.keep hb1 (by simp))
 obtain ⟨c0,c1,c2,c3,c4,c5⟩:=HX1.out.facts
 simp only at c0 c1 c2 c3 c4 c5
 clear hb1
 go_wp2
 go_region
 go_wp2_with (at_builtin;refine wpList_append_own _ rfl _ _ 102 rfl w1.heap.size 9 i0 (.string ⟨#[]⟩) 1 16 Tryz.underlying102 HI.out.1 HI.out.2.1 HI.out.2.2.1 HI.out.2.2.2 rfl (by decide) _ 3 _ rfl ((own_three2 w1 _ tAccount _ _ _).alloc _) ⟨w1.heap.size+1+1,0,none⟩ 2 2 [.string tFixed,.string fi] rfl rfl (new_cells3 w1 _ _ [.string tFixed,.string fi] _) (by intro u hu;simp at hu;rcases hu with rfl | rfl <;> rfl) (by unfold maxLen;omega) (by omega) (by simp;omega) ?_;intro v' w2 hown' hgrow _;have HF1:=Lib.hid (below_grown (below_drewN ((((Below.refl w1.heap.size w1).alloc (Nat.le_refl _) _).alloc (by simp) _).alloc (by simp;omega) _) 1) (by simp;omega) ((own_three2 w1 _ tAccount _ _ _).alloc _) hgrow);obtain ⟨k0,k1,k2,k3,k4,k5⟩:=(HX1.out.keep HF1.out hlt).facts;simp only at k0 k1 k2 k3 k4 k5)
 have HF:=Lib.hid (HB1.out.trans (HF1.out.mono HB1.out.size))
 clear hgrow
 go_wp2
 go_ret
 exact ⟨_,rfl,own_words (ws:=[tAccount,co,tAsset,tFixed,fi]) hown' (by have:=HB1.out.size;omega),HF.out⟩
set_option maxRecDepth 100000 in
set_option maxHeartbeats 4000000 in
theorem rwords_worn (co fi:ByteArray) (w:World) (h:rightA ⟨co,0,false,false,fi,true⟩=true) (hf:neB fi=true):Calls Tryz.prog 124 #[aggF ⟨co,0,false,false,fi,true⟩] w (StrsOwned w (wordsA ⟨co,0,false,false,fi,true⟩)):=by
 have HR:=Lib.hid (rright_any ⟨co,0,false,false,fi,true⟩)
 rw [h] at HR
 have HW:Hid (wordsA ⟨co,0,false,false,fi,true⟩=[tAccount,co,tAsset,tWorn,fi]):=Lib.hid (by unfold wordsA;rw [if_pos h];simp [markW,clsW])
 rw [HW.out]
 obtain ⟨i0,hi,hz0,hz1,hz2⟩:=info_parts info_str
 have HI:=Lib.hid (And.intro hi (And.intro hz0 (And.intro hz1 hz2)))
 clear h HW hi hz0 hz1 hz2
 have HB:=Lib.hid ((Below.refl w.heap.size w).alloc (Nat.le_refl _) (.cells #[.string co,.int .i64 0,.bool false,.bool false,.string fi,.bool true] 172))
 have HX0:=Lib.hid (BoxA.new w ⟨co,0,false,false,fi,true⟩ 172)
 have HN:=Lib.hid hf
 unfold neB at hf
 go_enter Tryz.func124,Tryz.ntmps124
 go_wp2_with fail
 refine (HR.out _).mono ?_
 rintro e w1 ⟨rfl,hb1⟩
 have HB1:=Lib.hid (HB.out.trans (hb1.mono HB.out.size))
 have hlt:w.heap.size < w1.heap.size:=by have:=hb1.size;simp at this;omega
 have HX1:=Lib.hid (HX0.out.keep hb1 (by simp))
 obtain ⟨c0,c1,c2,c3,c4,c5⟩:=HX1.out.facts
 simp only at c0 c1 c2 c3 c4 c5
 clear hb1
 go_wp2
 go_region
 go_wp2_with (at_builtin;refine wpList_append_own _ rfl _ _ 102 rfl w1.heap.size 9 i0 (.string ⟨#[]⟩) 1 16 Tryz.underlying102 HI.out.1 HI.out.2.1 HI.out.2.2.1 HI.out.2.2.2 rfl (by decide) _ 3 _ rfl ((own_three2 w1 _ tAccount _ _ _).alloc _) ⟨w1.heap.size+1+1,0,none⟩ 2 2 [.string tWorn,.string fi] rfl rfl (new_cells3 w1 _ _ [.string tWorn,.string fi] _) (by intro u hu;simp at hu;rcases hu with rfl | rfl <;> rfl) (by unfold maxLen;omega) (by omega) (by simp;omega) ?_;intro v' w2 hown' hgrow _;have HF1:=Lib.hid (below_grown (below_drewN ((((Below.refl w1.heap.size w1).alloc (Nat.le_refl _) _).alloc (by simp) _).alloc (by simp;omega) _) 1) (by simp;omega) ((own_three2 w1 _ tAccount _ _ _).alloc _) hgrow);obtain ⟨k0,k1,k2,k3,k4,k5⟩:=(HX1.out.keep HF1.out hlt).facts;simp only at k0 k1 k2 k3 k4 k5)
 have HF:=Lib.hid (HB1.out.trans (HF1.out.mono HB1.out.size))
 clear hgrow
 go_wp2
 go_ret
 exact ⟨_,rfl,own_words (ws:=[tAccount,co,tAsset,tWorn,fi]) hown' (by have:=HB1.out.size;omega),HF.out⟩
theorem rwords_any (a:Acct) (w:World):Calls Tryz.prog 124 #[aggF a] w (StrsOwned w (wordsA a)):=by
 cases h:rightA a with
 | false=>exact rwords_no a w h
 | true =>
   obtain ⟨co,cl,ca,mu,fi,wo⟩:=a
   rcases marks_ways (right_parts h).2.2 with ⟨e1,e2,e3,e4⟩ | ⟨e1,e2,e3,e4,e5⟩ | ⟨e1,e2,e3,e4,e5⟩ | ⟨e1,e2,e3,e6,e4,e5⟩ | ⟨e1,e2,e3,e6,e4,e5⟩ <;> simp only at e1 e2 e3 e4 <;> subst e1 e2 e4
   ·subst e3;exact rwords_plain co cl w h
   ·simp only at e5;subst e3 e5;exact rwords_cash co w h
   ·simp only at e5;subst e3;exact rwords_both co cl w h e5
   ·simp only at e5;subst e5;exact rwords_fixed co fi w h e6
   ·simp only at e5;subst e5;exact rwords_worn co fi w h e6
end Go.Proofs.YtfhhihamndbcnaaGreatDoor.Ow
namespace Go.Proofs.YtfhhihamndbcnaaGreatDoor
open Go.RowKit
theorem rwords_any (a:Acct) (w:World):Calls Tryz.prog 124 #[aggF a] w (WordsTold w (wordsA a)):=by
 refine (Ow.rwords_any a w).mono ?_
 rintro e w' ⟨v,rfl,ho,hb⟩
 exact ⟨v,rfl,strs_of_own ho,hb⟩
end Go.Proofs.YtfhhihamndbcnaaGreatDoor
end
section
namespace Go.Proofs.YtfhhihamndbcnaaGreatDoor.Un
open Go.RowKit
set_option maxRecDepth 100000 in
set_option maxHeartbeats 4000000 in
theorem single_any (a b:ByteArray) (w:World):Calls Tryz.prog 130 #[.string a,.string b] w fun en w'=>en=.returned (.tuple #[.string (if a=emp then b else a),.int .i64 (oneE a)])∧w'=w:=by
 by_cases h:a=emp
 ·subst h
  have e:oneE emp=0:=by simp [oneE]
  rw [e,if_pos rfl]
  go_enter Tryz.func130,Tryz.ntmps130
  go_wp2
  go_ret2
  exact ⟨rfl,rfl⟩
 ·have e:oneE a=7:=by simp [oneE,h]
  rw [e,if_neg h]
  have hn:(!a.toList.isEmpty)=true:=(neB_iff a).2 h
  go_enter Tryz.func130,Tryz.ntmps130
  go_wp2
  go_ret2
  exact ⟨rfl,rfl⟩
set_option maxRecDepth 100000 in
set_option maxHeartbeats 4000000 in
theorem rnames_any (v:Value) (ws:List ByteArray) (w:World) (h:StrsV w v ws):Calls Tryz.prog 127 #[v] w fun en w'=>en=.returned (.bool (namesW ws))∧w'=w:=by
 obtain ⟨p,c,rfl,hcap,hm,hc⟩:=h
 obtain ⟨n,hn⟩:∃ n,ws.length=n:=⟨_,rfl⟩
 obtain ⟨R,hR⟩:∃ R,namesW ws=R:=⟨_,rfl⟩
 rw [hR]
 have HR:Hid ((ws.drop 1).all nmB=R):=Lib.hid hR
 rw [hn] at hcap hm ⊢
 have HN:=Lib.hid hn
 have HC:=Lib.hid hc
 unfold maxLen at hm
 clear hc hn hR
 go_enter Tryz.func127,Tryz.ntmps127
 go_wp2
 go_loopw [3] (fun s3 wr=>∃ i:Nat,i≤n∧s3=.int .i64 ((i:Int)+1)∧wr=w∧Hid (SoFar nmB (ws.drop 1) i)) (fun s3 _=>n+1 - (intOf s3).toNat)
 case atStart=>exact ⟨0,Nat.zero_le _,rfl,rfl,Lib.hid (SoFar.zero _ _)⟩
 case round =>
  obtain ⟨i,hi,rfl,rfl,HS⟩:=hrel
  by_cases hlt:i+1 < n
  ·obtain ⟨x,hx⟩:∃ x,ws[i+1]?=some x:=⟨_,List.getElem?_eq_getElem (by rw [HN.out];exact hlt)⟩
   obtain ⟨b,o,rfl,k1⟩:=HC.out (i+1) x hx
   have HX:Hid ((ws.drop 1)[i]?=some x):=Lib.hid (by rw [List.getElem?_drop,Nat.add_comm];exact hx)
   have hltz:(i:Int)+1 < (n:Int):=by omega
   have HNA:Hid (Calls Tryz.prog 158 #[.string x] wr fun e w'=>e=.returned (.bool (nmB x))∧wr=w'):=Lib.hid (rname_at x wr)
   obtain ⟨B,hB⟩:∃ B,nmB x=B:=⟨_,rfl⟩
   rw [hB] at HNA
   have HB:=Lib.hid hB
   clear hx hB
   go_wp2_with fail
   refine HNA.out.mono ?_
   rintro en w2 ⟨rfl,rfl⟩
   cases B with
   | false =>
     have HRF:Hid (R=false):=Lib.hid (by rw [←HR.out];exact all_no HX.out HB.out)
     go_wp2
     go_ret
     exact ⟨by rw [HRF.out];rfl,rfl⟩
   | true =>
     have HSN:=Lib.hid (HS.out.next HX.out HB.out)
     go_wp2
     go_roundw
     case rel=>exact ⟨i+1,by omega,by first | rfl | go_num | (congr 1;omega),by first | rfl | trivial | simp,HSN⟩
     case measure=>simp [intOf];omega
  ·have hltz:¬ (i:Int)+1 < (n:Int):=by omega
   have HRT:Hid (R=true):=Lib.hid (by rw [←HR.out];exact HS.out.done (by rw [List.length_drop,HN.out];omega))
   go_wp2
   go_ret
   exact ⟨by rw [HRT.out];rfl,rfl⟩
def specA (a:Acct) (k:Int):Bool:=decide (a.cls=k) && !a.cash && !a.both && !neB a.fixed
set_option maxRecDepth 100000 in
set_option maxHeartbeats 4000000 in
theorem special_any (a:Acct) (k:Int) (w:World):Calls Tryz.prog 93 #[aggF a,.int .i64 k] w fun en w'=>en=.returned (.bool (specA a k))∧Below w.heap.size w w':=by
 obtain ⟨code,cls,cash,both,fixed,worn⟩:=a
 have HB:=Lib.hid ((Below.refl w.heap.size w).alloc (Nat.le_refl _) (.cells #[.string code,.int .i64 cls,.bool cash,.bool both,.string fixed,.bool worn] 172))
 obtain ⟨q0,q1,q2,q3,q4,q5⟩:=(BoxA.new w ⟨code,cls,cash,both,fixed,worn⟩ 172).facts
 dsimp only at q0 q1 q2 q3 q4 q5
 obtain ⟨R,hR⟩:∃ R,specA ⟨code,cls,cash,both,fixed,worn⟩ k=R:=⟨_,rfl⟩
 rw [hR]
 have HR:Hid ((decide (cls=k) && !cash && !both && !neB fixed)=R):=Lib.hid hR
 clear hR
 by_cases h1:cls=k
 ·have h1z:(cls==k)=true:=by simpa using h1
  have HR1:Hid ((!cash && !both && !neB fixed)=R):=Lib.hid (by rw [←HR.out,decide_eq_true h1];rfl)
  clear h1
  cases cash with
  | true =>
    have HRF:Hid (R=false):=Lib.hid (by rw [←HR1.out];rfl)
    go_enter Tryz.func93,Tryz.ntmps93
    go_wp2
    go_ret
    exact ⟨by rw [HRF.out];rfl,HB.out⟩
  | false =>
    cases both with
    | true =>
      have HRF:Hid (R=false):=Lib.hid (by rw [←HR1.out];rfl)
      go_enter Tryz.func93,Tryz.ntmps93
      go_wp2
      go_ret
      exact ⟨by rw [HRF.out];rfl,HB.out⟩
    | false =>
      have HR2:Hid ((!neB fixed)=R):=Lib.hid (by rw [←HR1.out];rfl)
      by_cases hf:fixed=emp
      ·subst hf
       have HRT:Hid (R=true):=Lib.hid (by rw [←HR2.out,neB_empty];rfl)
       go_enter Tryz.func93,Tryz.ntmps93
       go_wp2
       go_ret
       exact ⟨by rw [HRT.out];rfl,HB.out⟩
      ·have hne:(!fixed.toList.isEmpty)=true:=(neB_iff fixed).2 hf
       have HRF:Hid (R=false):=Lib.hid (by rw [←HR2.out];unfold neB;rw [hne];rfl)
       have hne2:fixed.toList.isEmpty=false:=by simpa using hne
       go_enter Tryz.func93,Tryz.ntmps93
       go_wp2
       go_ret
       exact ⟨by rw [HRF.out];rfl,HB.out⟩
 ·have h1z:(cls==k)=false:=by simpa using h1
  have HRF:Hid (R=false):=Lib.hid (by rw [←HR.out,decide_eq_false h1];rfl)
  clear h1
  go_enter Tryz.func93,Tryz.ntmps93
  go_wp2
  go_ret
  exact ⟨by rw [HRF.out];rfl,HB.out⟩
end Go.Proofs.YtfhhihamndbcnaaGreatDoor.Un
end
section
namespace Go.Proofs.YtfhhihamndbcnaaGreatDoor
open Go.RowKit
def docC (x l:ByteArray) (c k:Nat):Acct:=⟨x,(c:Int),decide (k=1),decide (k=2),if 2 < k then l else ⟨#[]⟩,decide (k=4)⟩
def Good (x l:ByteArray) (ws:List ByteArray) (c k:Nat):Prop:=rightA (docC x l c k)=true∧wordsA (docC x l c k)=ws
theorem words_le (a:Acct):(wordsA a).length≤5:=by
 unfold wordsA
 split
 ·unfold markW;split
  ·simp
  ·split
   ·simp
   ·split
    ·simp
    ·split <;> simp
 ·simp
theorem parse_long {ws:List ByteArray} (h:5 < ws.length):parseA ws=(zeroA,5):=by
 rcases parse_err ws with e | ⟨e,_,_⟩
 ·exact e
 ·have:=words_le (parseA ws).1
  rw [e] at this;omega
theorem parse_short {ws:List ByteArray} (h:ws.length < 3):parseA ws=(zeroA,5):=by unfold parseA;rw [if_pos h]
theorem cand_of {a:Acct} {ws:List ByteArray} {x l:ByteArray} (hr:rightA a=true) (hw:wordsA a=ws) (hx:ws[1]?=some x) (hl:ws[ws.length - 1]?=some l):∃ c k,c < 3∧k < 5∧a=docC x l c k:=by
 obtain ⟨_,h2,h3⟩:=right_parts hr
 have hw':ws=tAccount::a.code::clsW a.cls::markW a:=by rw [←hw];unfold wordsA;rw [if_pos hr]
 have hxc:x=a.code:=by rw [hw'] at hx;simpa using hx.symm
 obtain ⟨c,hc,hcl⟩:∃ c:Nat,c < 3∧a.cls=(c:Int):=by
  rcases h2 with h | h | h
  ·exact ⟨0,by omega,by rw [h];rfl⟩
  ·exact ⟨1,by omega,by rw [h];rfl⟩
  ·exact ⟨2,by omega,by rw [h];rfl⟩
 subst hxc
 rcases marks_ways h3 with ⟨e1,e2,e3,e4⟩ | ⟨e1,e2,e3,e4,_⟩ | ⟨e1,e2,e3,e4,_⟩ | ⟨e1,e2,e3,e6,e4,_⟩ | ⟨e1,e2,e3,e6,e4,_⟩
 ·exact ⟨c,0,hc,by omega,Acct.ext' rfl hcl e1 e2 e3 e4⟩
 ·exact ⟨c,1,hc,by omega,Acct.ext' rfl hcl e1 e2 e3 e4⟩
 ·exact ⟨c,2,hc,by omega,Acct.ext' rfl hcl e1 e2 e3 e4⟩
 ·refine ⟨c,3,hc,by omega,Acct.ext' rfl hcl e1 e2 ?_ e4⟩
  rw [hw'] at hl
  simp [markW,e1,e2,e4,e6] at hl
  simpa [docC] using hl
 ·refine ⟨c,4,hc,by omega,Acct.ext' rfl hcl e1 e2 ?_ e4⟩
  rw [hw'] at hl
  simp [markW,e1,e2,e4] at hl
  simpa [docC] using hl
theorem parse_none {ws:List ByteArray} {x l:ByteArray} (hx:ws[1]?=some x) (hl:ws[ws.length - 1]?=some l) (h:∀ c k,c < 3→k < 5→¬ Good x l ws c k):parseA ws=(zeroA,5):=by
 rcases parse_err ws with e | ⟨e,hr,_⟩
 ·exact e
 ·obtain ⟨c,k,hc,hk,ha⟩:=cand_of hr e hx hl
  exact absurd ⟨ha ▸ hr,ha ▸ e⟩ (h c k hc hk)
def NoneTo (x l:ByteArray) (ws:List ByteArray) (c k:Nat):Prop:=∀ c' k',k' < 5→(c' < c∨c'=c∧k' < k)→¬ Good x l ws c' k'
theorem NoneTo.next {x l:ByteArray} {ws:List ByteArray} {c k:Nat} (h:NoneTo x l ws c k) (hn:¬ Good x l ws c k):NoneTo x l ws c (k+1):=fun c' k' hk' hd hg=>by
 by_cases he:c'=c∧k'=k
 ·obtain ⟨rfl,rfl⟩:=he;exact hn hg
 ·exact h c' k' hk' (by omega) hg
theorem NoneTo.row {x l:ByteArray} {ws:List ByteArray} {c:Nat} (h:NoneTo x l ws c 5):NoneTo x l ws (c+1) 0:=fun c' k' hk' hd=>h c' k' hk' (by omega)
abbrev cells23 (a:Acct):Obj:=.cells #[.string a.code,.int .i64 a.cls,.bool a.cash,.bool a.both,.string a.fixed,.bool a.worn] 172
set_option maxRecDepth 100000 in
set_option maxHeartbeats 8000000 in
theorem rparse_any (v:Value) (ws:List ByteArray) (w:World) (h:StrsV w v ws) :
 Calls Tryz.prog 86 #[v] w fun e w'=>e=.returned (.tuple #[aggF (parseA ws).1,.int .i64 (parseA ws).2])∧Below w.heap.size w w':=by
 have HV:=Lib.hid h
 obtain ⟨p,c,rfl,hcap,hm,hc⟩:=h
 obtain ⟨n,hn⟩:∃ n,ws.length=n:=⟨_,rfl⟩
 rw [hn] at hcap hm HV ⊢
 unfold maxLen at hm
 have HB0:=Lib.hid ((Below.refl w.heap.size w).alloc (Nat.le_refl _) (.cells #[.string ⟨#[]⟩,.int .i64 0,.bool false,.bool false,.string ⟨#[]⟩,.bool false] 172))
 have HX0:=Lib.hid (BoxA.new w zeroA 172)
 by_cases h3:n < 3
 ·have hP:Hid (parseA ws=(zeroA,5)):=Lib.hid (parse_short (by rw [hn];exact h3))
  rw [hP.out]
  clear hn hc
  go_enter Tryz.func86,Tryz.ntmps86
  go_wp2
  refine bodyPost_ret (v:=.tuple #[aggF zeroA,.int .i64 5]) (by simp [results,Tryz.results86,go_sem,zeroA]) rfl ⟨rfl,HB0.out⟩
 ·by_cases h5:5 < n
  ·have hP:Hid (parseA ws=(zeroA,5)):=Lib.hid (parse_long (by rw [hn];exact h5))
   rw [hP.out]
   clear hn hc
   go_enter Tryz.func86,Tryz.ntmps86
   go_wp2
   refine bodyPost_ret (v:=.tuple #[aggF zeroA,.int .i64 5]) (by simp [results,Tryz.results86,go_sem,zeroA]) rfl ⟨rfl,HB0.out⟩
  ·obtain ⟨x,hx⟩:∃ x,ws[1]?=some x:=⟨_,List.getElem?_eq_getElem (by omega)⟩
   obtain ⟨l,hl⟩:∃ x,ws[n - 1]?=some x:=⟨_,List.getElem?_eq_getElem (by omega)⟩
   obtain ⟨b,o,rfl,k1⟩:=hc 1 x hx
   obtain ⟨b',o',e',k2⟩:=hc (n - 1) l hl
   cases e'
   obtain ⟨R,hR⟩:∃ R,parseA ws=R:=⟨_,rfl⟩
   rw [hR]
   have HR:=Lib.hid hR
   have HX:=Lib.hid hx
   have HL:Hid (ws[ws.length - 1]?=some l):=Lib.hid (by rw [hn];exact hl)
   have HV0:=Lib.hid (HV.out.keep HB0.out)
   have K1:=Lib.hid k1
   have j1:=cell_later HB0.out k1
   have j2:=cell_later HB0.out k2
   have hn1:(n:Int) - 1=((n - 1:Nat):Int):=by omega
   clear hx hl hc hn hR k1 k2
   go_enter Tryz.func86,Tryz.ntmps86
   go_wp2
   go_loopw [3,5] (fun s3 s5 wr=>∃ c:Nat,c≤3∧s5=.int .i64 (c:Int)∧Below w.heap.size w wr∧w.heap.size < wr.heap.size∧BoxA wr w.heap.size 172 zeroA∧s3=.int .i64 0∧Hid (NoneTo x l ws c 0)) (fun _ s5 _=>3 - (intOf s5).toNat)
   case atStart=>exact ⟨0,by omega,rfl,HB0.out,by simp,HX0.out,rfl,Lib.hid fun c' k' _ hd=>by omega⟩
   case round =>
    obtain ⟨q,hq,rfl,hnx,hsz,hbox,rfl,HNO⟩:=hrel
    clear j1 j2
    by_cases hq3:q < 3
    ·have hq3b:decide ((q:Int) < 3)=true:=decide_eq_true (by omega)
     go_wp2
     rename World=>wa
     have HNX:=Lib.hid hnx
     have HSZ:=Lib.hid hsz
     have HBX:=Lib.hid hbox
     clear hnx hsz hbox
     go_loopw [3,6] (fun s3 s6 wr=>∃ k:Nat,k≤5∧s6=.int .i64 (k:Int)∧Below w.heap.size w wr∧w.heap.size < wr.heap.size∧BoxA wr w.heap.size 172 zeroA∧s3=.int .i64 0∧Hid (NoneTo x l ws q k)) (fun _ s6 _=>5 - (intOf s6).toNat)
     case atStart=>exact ⟨0,by omega,rfl,HNX.out,HSZ.out,HBX.out,rfl,HNO⟩
     case round =>
      obtain ⟨k,hk,rfl,hnx,hsz,hbox,rfl,HNK⟩:=hrel
      by_cases hk5:k < 5
      ·have j1:=cell_later hnx K1.out
       have HNX2:=Lib.hid hnx
       have HBX2:=Lib.hid hbox
       have HVW:=Lib.hid (HV.out.keep hnx)
       rcases (by omega:k=0∨k=1∨k=2∨k=3∨k=4) with rfl | rfl | rfl | rfl | rfl
       ·clear hk hk5
        have HG:Hid (Good x l ws q 0 ↔ rightA ⟨x,(q:Int),false,false,⟨#[]⟩,false⟩=true∧wordsA ⟨x,(q:Int),false,false,⟨#[]⟩,false⟩=ws):=Lib.hid Iff.rfl
        have HRT:=Lib.hid (rright_any ⟨x,(q:Int),false,false,⟨#[]⟩,false⟩)
        have HWT:=Lib.hid (rwords_any ⟨x,(q:Int),false,false,⟨#[]⟩,false⟩)
        have HBA:=Lib.hid (hnx.alloc (Nat.le_of_lt hsz) (cells23 ⟨x,(q:Int),false,false,⟨#[]⟩,false⟩))
        have HBA':=Lib.hid ((Below.refl wr.heap.size wr).alloc (Nat.le_refl _) (cells23 ⟨x,(q:Int),false,false,⟨#[]⟩,false⟩))
        have HXA:=Lib.hid (BoxA.new wr ⟨x,(q:Int),false,false,⟨#[]⟩,false⟩ 172)
        have HBXA:=Lib.hid (hbox.keep HBA'.out hsz)
        have HVA:=Lib.hid (HVW.out.keep HBA'.out)
        cases hr:rightA ⟨x,(q:Int),false,false,⟨#[]⟩,false⟩ with
        | false =>
          have hng:Hid (¬ Good x l ws q 0):=Lib.hid (fun h=>by rw [HG.out,hr] at h;cases h.1)
          rw [hr] at HRT
          clear hr
          go_wp2_with fail
          refine (HRT.out _).mono ?_
          rintro e w2 ⟨rfl,hb2⟩
          have HF:=Lib.hid (HBA.out.trans (hb2.mono HBA.out.size))
          have HS2:Hid (w.heap.size < w2.heap.size):=Lib.hid (by have:=hb2.size;simp at this;omega)
          have HB2:=Lib.hid (HBXA.out.keep hb2 (by simp;omega))
          clear hb2
          go_wp2
          go_roundw
          case rel=>first | exact ⟨1,by omega,by first | rfl | go_num,HF.out,HS2.out,HB2.out,rfl,Lib.hid (HNK.out.next hng.out)⟩ | ((repeat apply Exists.intro);exact ⟨⟨1,by omega,by first | rfl | go_num,HF.out,HS2.out,HB2.out,rfl,Lib.hid (HNK.out.next hng.out)⟩,rfl⟩)
          case measure=>simp [intOf]
        | true =>
          rw [hr] at HRT
          have HRR:=Lib.hid hr
          clear hr
          go_wp2_with fail
          refine (HRT.out _).mono ?_
          rintro e w2 ⟨rfl,hb2⟩
          have HF:=Lib.hid (HBA.out.trans (hb2.mono HBA.out.size))
          have HS2:Hid (w.heap.size < w2.heap.size):=Lib.hid (by have:=hb2.size;simp at this;omega)
          have HB2:=Lib.hid (HBXA.out.keep hb2 (by simp;omega))
          have HX2:=Lib.hid (HXA.out.keep hb2 (by simp))
          have HSX:Hid (wr.heap.size < w2.heap.size):=Lib.hid (by have:=hb2.size;simp at this;omega)
          have HV2:=Lib.hid (HVA.out.keep hb2)
          clear hb2
          obtain ⟨c0,c1,c2,c3,c4,c5⟩:=HX2.out.facts
          simp only at c0 c1 c2 c3 c4 c5
          go_wp2_with fail
          clear c0 c1 c2 c3 c4 c5
          refine (HWT.out _).mono ?_
          rintro e w3 ⟨v3,rfl,hs3,hb3⟩
          have HS3:=Lib.hid hs3
          have HV3:=Lib.hid (HV2.out.keep hb3)
          have HF3:=Lib.hid (HF.out.trans (hb3.mono HF.out.size))
          have HB3:=Lib.hid (HB2.out.keep hb3 HS2.out)
          have HX3:=Lib.hid (HX2.out.keep hb3 HSX.out)
          have HS3':Hid (w.heap.size < w3.heap.size):=Lib.hid (Nat.lt_of_lt_of_le HS2.out hb3.size)
          clear hs3 hb3
          go_wp2_with fail
          refine (sameWords_any _ _ _ ws _ HS3.out HV3.out).mono ?_
          rintro e w4 ⟨rfl,qq,hq4⟩
          have HF4:Hid (Below w.heap.size w w4):=Lib.hid (by rw [hq4];exact below_drewN HF3.out qq)
          have HB4:Hid (BoxA w4 w.heap.size 172 zeroA):=Lib.hid (by rw [hq4];exact HB3.out)
          have HX4:Hid (BoxA w4 wr.heap.size 172 ⟨x,(q:Int),false,false,⟨#[]⟩,false⟩):=Lib.hid (by rw [hq4];exact HX3.out)
          have HS4:Hid (w.heap.size < w4.heap.size):=Lib.hid (by rw [hq4];exact HS3'.out)
          clear hq4
          by_cases hw:wordsA ⟨x,(q:Int),false,false,⟨#[]⟩,false⟩=ws
          ·have hsm:Hid (sameW (wordsA ⟨x,(q:Int),false,false,⟨#[]⟩,false⟩) ws=true):=Lib.hid (decide_eq_true hw)
           have hres:Hid (R=(⟨x,(q:Int),false,false,⟨#[]⟩,false⟩,0)):=Lib.hid (by rw [←HR.out];exact parse_of HRR.out hw)
           rw [hsm.out]
           clear hw
           obtain ⟨c0,c1,c2,c3,c4,c5⟩:=HX4.out.facts
           simp only at c0 c1 c2 c3 c4 c5
           go_wp2_with (refine wpList_store_acct rfl 172 (.tmp 2) (.tmp 55) rfl w.heap.size zeroA ⟨x,(q:Int),false,false,⟨#[]⟩,false⟩ 172 rfl rfl HB4.out (by kernel_rfl) ?_;intro w8 hb8 hg8)
           have HFF:=Lib.hid (HF4.out.grown hg8 HF4.out.size (fun j hj=>by cases hj;exact Nat.le_refl _))
           obtain ⟨t0,t1,t2,t3,t4,t5⟩:=hb8.facts
           simp only at t0 t1 t2 t3 t4 t5
           clear hb8 hg8
           refine bodyPost_ret (v:=.tuple #[aggF ⟨x,(q:Int),false,false,⟨#[]⟩,false⟩,.int .i64 0]) (by simp [results,Tryz.results86,go_sem,t0,t1,t2,t3,t4,t5]) rfl ⟨by rw [hres.out],HFF.out⟩
          ·have hsm:Hid (sameW (wordsA ⟨x,(q:Int),false,false,⟨#[]⟩,false⟩) ws=false):=Lib.hid (decide_eq_false hw)
           have hng:Hid (¬ Good x l ws q 0):=Lib.hid (fun h=>by rw [HG.out] at h;exact hw h.2)
           rw [hsm.out]
           clear hw
           go_wp2
           go_roundw
           case rel=>first | exact ⟨1,by omega,by first | rfl | go_num,HF4.out,HS4.out,HB4.out,rfl,Lib.hid (HNK.out.next hng.out)⟩ | ((repeat apply Exists.intro);exact ⟨⟨1,by omega,by first | rfl | go_num,HF4.out,HS4.out,HB4.out,rfl,Lib.hid (HNK.out.next hng.out)⟩,rfl⟩)
           case measure=>simp [intOf]
       ·clear hk hk5
        have HG:Hid (Good x l ws q 1 ↔ rightA ⟨x,(q:Int),true,false,⟨#[]⟩,false⟩=true∧wordsA ⟨x,(q:Int),true,false,⟨#[]⟩,false⟩=ws):=Lib.hid Iff.rfl
        have HRT:=Lib.hid (rright_any ⟨x,(q:Int),true,false,⟨#[]⟩,false⟩)
        have HWT:=Lib.hid (rwords_any ⟨x,(q:Int),true,false,⟨#[]⟩,false⟩)
        have HBA:=Lib.hid (hnx.alloc (Nat.le_of_lt hsz) (cells23 ⟨x,(q:Int),true,false,⟨#[]⟩,false⟩))
        have HBA':=Lib.hid ((Below.refl wr.heap.size wr).alloc (Nat.le_refl _) (cells23 ⟨x,(q:Int),true,false,⟨#[]⟩,false⟩))
        have HXA:=Lib.hid (BoxA.new wr ⟨x,(q:Int),true,false,⟨#[]⟩,false⟩ 172)
        have HBXA:=Lib.hid (hbox.keep HBA'.out hsz)
        have HVA:=Lib.hid (HVW.out.keep HBA'.out)
        cases hr:rightA ⟨x,(q:Int),true,false,⟨#[]⟩,false⟩ with
        | false =>
          have hng:Hid (¬ Good x l ws q 1):=Lib.hid (fun h=>by rw [HG.out,hr] at h;cases h.1)
          rw [hr] at HRT
          clear hr
          go_wp2_with fail
          refine (HRT.out _).mono ?_
          rintro e w2 ⟨rfl,hb2⟩
          have HF:=Lib.hid (HBA.out.trans (hb2.mono HBA.out.size))
          have HS2:Hid (w.heap.size < w2.heap.size):=Lib.hid (by have:=hb2.size;simp at this;omega)
          have HB2:=Lib.hid (HBXA.out.keep hb2 (by simp;omega))
          clear hb2
          go_wp2
          go_roundw
          case rel=>first | exact ⟨2,by omega,by first | rfl | go_num,HF.out,HS2.out,HB2.out,rfl,Lib.hid (HNK.out.next hng.out)⟩ | ((repeat apply Exists.intro);exact ⟨⟨2,by omega,by first | rfl | go_num,HF.out,HS2.out,HB2.out,rfl,Lib.hid (HNK.out.next hng.out)⟩,rfl⟩)
          case measure=>simp [intOf]
        | true =>
          rw [hr] at HRT
          have HRR:=Lib.hid hr
          clear hr
          go_wp2_with fail
          refine (HRT.out _).mono ?_
          rintro e w2 ⟨rfl,hb2⟩
          have HF:=Lib.hid (HBA.out.trans (hb2.mono HBA.out.size))
          have HS2:Hid (w.heap.size < w2.heap.size):=Lib.hid (by have:=hb2.size;simp at this;omega)
          have HB2:=Lib.hid (HBXA.out.keep hb2 (by simp;omega))
          have HX2:=Lib.hid (HXA.out.keep hb2 (by simp))
          have HSX:Hid (wr.heap.size < w2.heap.size):=Lib.hid (by have:=hb2.size;simp at this;omega)
          have HV2:=Lib.hid (HVA.out.keep hb2)
          clear hb2
          obtain ⟨c0,c1,c2,c3,c4,c5⟩:=HX2.out.facts
          simp only at c0 c1 c2 c3 c4 c5
          go_wp2_with fail
          clear c0 c1 c2 c3 c4 c5
          refine (HWT.out _).mono ?_
          rintro e w3 ⟨v3,rfl,hs3,hb3⟩
          have HS3:=Lib.hid hs3
          have HV3:=Lib.hid (HV2.out.keep hb3)
          have HF3:=Lib.hid (HF.out.trans (hb3.mono HF.out.size))
          have HB3:=Lib.hid (HB2.out.keep hb3 HS2.out)
          have HX3:=Lib.hid (HX2.out.keep hb3 HSX.out)
          have HS3':Hid (w.heap.size < w3.heap.size):=Lib.hid (Nat.lt_of_lt_of_le HS2.out hb3.size)
          clear hs3 hb3
          go_wp2_with fail
          refine (sameWords_any _ _ _ ws _ HS3.out HV3.out).mono ?_
          rintro e w4 ⟨rfl,qq,hq4⟩
          have HF4:Hid (Below w.heap.size w w4):=Lib.hid (by rw [hq4];exact below_drewN HF3.out qq)
          have HB4:Hid (BoxA w4 w.heap.size 172 zeroA):=Lib.hid (by rw [hq4];exact HB3.out)
          have HX4:Hid (BoxA w4 wr.heap.size 172 ⟨x,(q:Int),true,false,⟨#[]⟩,false⟩):=Lib.hid (by rw [hq4];exact HX3.out)
          have HS4:Hid (w.heap.size < w4.heap.size):=Lib.hid (by rw [hq4];exact HS3'.out)
          clear hq4
          by_cases hw:wordsA ⟨x,(q:Int),true,false,⟨#[]⟩,false⟩=ws
          ·have hsm:Hid (sameW (wordsA ⟨x,(q:Int),true,false,⟨#[]⟩,false⟩) ws=true):=Lib.hid (decide_eq_true hw)
           have hres:Hid (R=(⟨x,(q:Int),true,false,⟨#[]⟩,false⟩,0)):=Lib.hid (by rw [←HR.out];exact parse_of HRR.out hw)
           rw [hsm.out]
           clear hw
           obtain ⟨c0,c1,c2,c3,c4,c5⟩:=HX4.out.facts
           simp only at c0 c1 c2 c3 c4 c5
           go_wp2_with (refine wpList_store_acct rfl 172 (.tmp 2) (.tmp 55) rfl w.heap.size zeroA ⟨x,(q:Int),true,false,⟨#[]⟩,false⟩ 172 rfl rfl HB4.out (by kernel_rfl) ?_;intro w8 hb8 hg8)
           have HFF:=Lib.hid (HF4.out.grown hg8 HF4.out.size (fun j hj=>by cases hj;exact Nat.le_refl _))
           obtain ⟨t0,t1,t2,t3,t4,t5⟩:=hb8.facts
           simp only at t0 t1 t2 t3 t4 t5
           clear hb8 hg8
           refine bodyPost_ret (v:=.tuple #[aggF ⟨x,(q:Int),true,false,⟨#[]⟩,false⟩,.int .i64 0]) (by simp [results,Tryz.results86,go_sem,t0,t1,t2,t3,t4,t5]) rfl ⟨by rw [hres.out],HFF.out⟩
          ·have hsm:Hid (sameW (wordsA ⟨x,(q:Int),true,false,⟨#[]⟩,false⟩) ws=false):=Lib.hid (decide_eq_false hw)
           have hng:Hid (¬ Good x l ws q 1):=Lib.hid (fun h=>by rw [HG.out] at h;exact hw h.2)
           rw [hsm.out]
           clear hw
           go_wp2
           go_roundw
           case rel=>first | exact ⟨2,by omega,by first | rfl | go_num,HF4.out,HS4.out,HB4.out,rfl,Lib.hid (HNK.out.next hng.out)⟩ | ((repeat apply Exists.intro);exact ⟨⟨2,by omega,by first | rfl | go_num,HF4.out,HS4.out,HB4.out,rfl,Lib.hid (HNK.out.next hng.out)⟩,rfl⟩)
           case measure=>simp [intOf]
       ·clear hk hk5
        have HG:Hid (Good x l ws q 2 ↔ rightA ⟨x,(q:Int),false,true,⟨#[]⟩,false⟩=true∧wordsA ⟨x,(q:Int),false,true,⟨#[]⟩,false⟩=ws):=Lib.hid Iff.rfl
        have HRT:=Lib.hid (rright_any ⟨x,(q:Int),false,true,⟨#[]⟩,false⟩)
        have HWT:=Lib.hid (rwords_any ⟨x,(q:Int),false,true,⟨#[]⟩,false⟩)
        have HBA:=Lib.hid (hnx.alloc (Nat.le_of_lt hsz) (cells23 ⟨x,(q:Int),false,true,⟨#[]⟩,false⟩))
        have HBA':=Lib.hid ((Below.refl wr.heap.size wr).alloc (Nat.le_refl _) (cells23 ⟨x,(q:Int),false,true,⟨#[]⟩,false⟩))
        have HXA:=Lib.hid (BoxA.new wr ⟨x,(q:Int),false,true,⟨#[]⟩,false⟩ 172)
        have HBXA:=Lib.hid (hbox.keep HBA'.out hsz)
        have HVA:=Lib.hid (HVW.out.keep HBA'.out)
        cases hr:rightA ⟨x,(q:Int),false,true,⟨#[]⟩,false⟩ with
        | false =>
          have hng:Hid (¬ Good x l ws q 2):=Lib.hid (fun h=>by rw [HG.out,hr] at h;cases h.1)
          rw [hr] at HRT
          clear hr
          go_wp2_with fail
          refine (HRT.out _).mono ?_
          rintro e w2 ⟨rfl,hb2⟩
          have HF:=Lib.hid (HBA.out.trans (hb2.mono HBA.out.size))
          have HS2:Hid (w.heap.size < w2.heap.size):=Lib.hid (by have:=hb2.size;simp at this;omega)
          have HB2:=Lib.hid (HBXA.out.keep hb2 (by simp;omega))
          clear hb2
          go_wp2
          go_roundw
          case rel=>first | exact ⟨3,by omega,by first | rfl | go_num,HF.out,HS2.out,HB2.out,rfl,Lib.hid (HNK.out.next hng.out)⟩ | ((repeat apply Exists.intro);exact ⟨⟨3,by omega,by first | rfl | go_num,HF.out,HS2.out,HB2.out,rfl,Lib.hid (HNK.out.next hng.out)⟩,rfl⟩)
          case measure=>simp [intOf]
        | true =>
          rw [hr] at HRT
          have HRR:=Lib.hid hr
          clear hr
          go_wp2_with fail
          refine (HRT.out _).mono ?_
          rintro e w2 ⟨rfl,hb2⟩
          have HF:=Lib.hid (HBA.out.trans (hb2.mono HBA.out.size))
          have HS2:Hid (w.heap.size < w2.heap.size):=Lib.hid (by have:=hb2.size;simp at this;omega)
          have HB2:=Lib.hid (HBXA.out.keep hb2 (by simp;omega))
          have HX2:=Lib.hid (HXA.out.keep hb2 (by simp))
          have HSX:Hid (wr.heap.size < w2.heap.size):=Lib.hid (by have:=hb2.size;simp at this;omega)
          have HV2:=Lib.hid (HVA.out.keep hb2)
          clear hb2
          obtain ⟨c0,c1,c2,c3,c4,c5⟩:=HX2.out.facts
          simp only at c0 c1 c2 c3 c4 c5
          go_wp2_with fail
          clear c0 c1 c2 c3 c4 c5
          refine (HWT.out _).mono ?_
          rintro e w3 ⟨v3,rfl,hs3,hb3⟩
          have HS3:=Lib.hid hs3
          have HV3:=Lib.hid (HV2.out.keep hb3)
          have HF3:=Lib.hid (HF.out.trans (hb3.mono HF.out.size))
          have HB3:=Lib.hid (HB2.out.keep hb3 HS2.out)
          have HX3:=Lib.hid (HX2.out.keep hb3 HSX.out)
          have HS3':Hid (w.heap.size < w3.heap.size):=Lib.hid (Nat.lt_of_lt_of_le HS2.out hb3.size)
          clear hs3 hb3
          go_wp2_with fail
          refine (sameWords_any _ _ _ ws _ HS3.out HV3.out).mono ?_
          rintro e w4 ⟨rfl,qq,hq4⟩
          have HF4:Hid (Below w.heap.size w w4):=Lib.hid (by rw [hq4];exact below_drewN HF3.out qq)
          have HB4:Hid (BoxA w4 w.heap.size 172 zeroA):=Lib.hid (by rw [hq4];exact HB3.out)
          have HX4:Hid (BoxA w4 wr.heap.size 172 ⟨x,(q:Int),false,true,⟨#[]⟩,false⟩):=Lib.hid (by rw [hq4];exact HX3.out)
          have HS4:Hid (w.heap.size < w4.heap.size):=Lib.hid (by rw [hq4];exact HS3'.out)
          clear hq4
          by_cases hw:wordsA ⟨x,(q:Int),false,true,⟨#[]⟩,false⟩=ws
          ·have hsm:Hid (sameW (wordsA ⟨x,(q:Int),false,true,⟨#[]⟩,false⟩) ws=true):=Lib.hid (decide_eq_true hw)
           have hres:Hid (R=(⟨x,(q:Int),false,true,⟨#[]⟩,false⟩,0)):=Lib.hid (by rw [←HR.out];exact parse_of HRR.out hw)
           rw [hsm.out]
           clear hw
           obtain ⟨c0,c1,c2,c3,c4,c5⟩:=HX4.out.facts
           simp only at c0 c1 c2 c3 c4 c5
           go_wp2_with (refine wpList_store_acct rfl 172 (.tmp 2) (.tmp 55) rfl w.heap.size zeroA ⟨x,(q:Int),false,true,⟨#[]⟩,false⟩ 172 rfl rfl HB4.out (by kernel_rfl) ?_;intro w8 hb8 hg8)
           have HFF:=Lib.hid (HF4.out.grown hg8 HF4.out.size (fun j hj=>by cases hj;exact Nat.le_refl _))
           obtain ⟨t0,t1,t2,t3,t4,t5⟩:=hb8.facts
           simp only at t0 t1 t2 t3 t4 t5
           clear hb8 hg8
           refine bodyPost_ret (v:=.tuple #[aggF ⟨x,(q:Int),false,true,⟨#[]⟩,false⟩,.int .i64 0]) (by simp [results,Tryz.results86,go_sem,t0,t1,t2,t3,t4,t5]) rfl ⟨by rw [hres.out],HFF.out⟩
          ·have hsm:Hid (sameW (wordsA ⟨x,(q:Int),false,true,⟨#[]⟩,false⟩) ws=false):=Lib.hid (decide_eq_false hw)
           have hng:Hid (¬ Good x l ws q 2):=Lib.hid (fun h=>by rw [HG.out] at h;exact hw h.2)
           rw [hsm.out]
           clear hw
           go_wp2
           go_roundw
           case rel=>first | exact ⟨3,by omega,by first | rfl | go_num,HF4.out,HS4.out,HB4.out,rfl,Lib.hid (HNK.out.next hng.out)⟩ | ((repeat apply Exists.intro);exact ⟨⟨3,by omega,by first | rfl | go_num,HF4.out,HS4.out,HB4.out,rfl,Lib.hid (HNK.out.next hng.out)⟩,rfl⟩)
           case measure=>simp [intOf]
       ·clear hk hk5
        have HG:Hid (Good x l ws q 3 ↔ rightA ⟨x,(q:Int),false,false,l,false⟩=true∧wordsA ⟨x,(q:Int),false,false,l,false⟩=ws):=Lib.hid Iff.rfl
        have HRT:=Lib.hid (rright_any ⟨x,(q:Int),false,false,l,false⟩)
        have HWT:=Lib.hid (rwords_any ⟨x,(q:Int),false,false,l,false⟩)
        have HBA:=Lib.hid (hnx.alloc (Nat.le_of_lt hsz) (cells23 ⟨x,(q:Int),false,false,l,false⟩))
        have HBA':=Lib.hid ((Below.refl wr.heap.size wr).alloc (Nat.le_refl _) (cells23 ⟨x,(q:Int),false,false,l,false⟩))
        have HXA:=Lib.hid (BoxA.new wr ⟨x,(q:Int),false,false,l,false⟩ 172)
        have HBXA:=Lib.hid (hbox.keep HBA'.out hsz)
        have HVA:=Lib.hid (HVW.out.keep HBA'.out)
        cases hr:rightA ⟨x,(q:Int),false,false,l,false⟩ with
        | false =>
          have hng:Hid (¬ Good x l ws q 3):=Lib.hid (fun h=>by rw [HG.out,hr] at h;cases h.1)
          rw [hr] at HRT
          clear hr
          go_wp2_with fail
          refine (HRT.out _).mono ?_
          rintro e w2 ⟨rfl,hb2⟩
          have HF:=Lib.hid (HBA.out.trans (hb2.mono HBA.out.size))
          have HS2:Hid (w.heap.size < w2.heap.size):=Lib.hid (by have:=hb2.size;simp at this;omega)
          have HB2:=Lib.hid (HBXA.out.keep hb2 (by simp;omega))
          clear hb2
          go_wp2
          go_roundw
          case rel=>first | exact ⟨4,by omega,by first | rfl | go_num,HF.out,HS2.out,HB2.out,rfl,Lib.hid (HNK.out.next hng.out)⟩ | ((repeat apply Exists.intro);exact ⟨⟨4,by omega,by first | rfl | go_num,HF.out,HS2.out,HB2.out,rfl,Lib.hid (HNK.out.next hng.out)⟩,rfl⟩)
          case measure=>simp [intOf]
        | true =>
          rw [hr] at HRT
          have HRR:=Lib.hid hr
          clear hr
          go_wp2_with fail
          refine (HRT.out _).mono ?_
          rintro e w2 ⟨rfl,hb2⟩
          have HF:=Lib.hid (HBA.out.trans (hb2.mono HBA.out.size))
          have HS2:Hid (w.heap.size < w2.heap.size):=Lib.hid (by have:=hb2.size;simp at this;omega)
          have HB2:=Lib.hid (HBXA.out.keep hb2 (by simp;omega))
          have HX2:=Lib.hid (HXA.out.keep hb2 (by simp))
          have HSX:Hid (wr.heap.size < w2.heap.size):=Lib.hid (by have:=hb2.size;simp at this;omega)
          have HV2:=Lib.hid (HVA.out.keep hb2)
          clear hb2
          obtain ⟨c0,c1,c2,c3,c4,c5⟩:=HX2.out.facts
          simp only at c0 c1 c2 c3 c4 c5
          go_wp2_with fail
          clear c0 c1 c2 c3 c4 c5
          refine (HWT.out _).mono ?_
          rintro e w3 ⟨v3,rfl,hs3,hb3⟩
          have HS3:=Lib.hid hs3
          have HV3:=Lib.hid (HV2.out.keep hb3)
          have HF3:=Lib.hid (HF.out.trans (hb3.mono HF.out.size))
          have HB3:=Lib.hid (HB2.out.keep hb3 HS2.out)
          have HX3:=Lib.hid (HX2.out.keep hb3 HSX.out)
          have HS3':Hid (w.heap.size < w3.heap.size):=Lib.hid (Nat.lt_of_lt_of_le HS2.out hb3.size)
          clear hs3 hb3
          go_wp2_with fail
          refine (sameWords_any _ _ _ ws _ HS3.out HV3.out).mono ?_
          rintro e w4 ⟨rfl,qq,hq4⟩
          have HF4:Hid (Below w.heap.size w w4):=Lib.hid (by rw [hq4];exact below_drewN HF3.out qq)
          have HB4:Hid (BoxA w4 w.heap.size 172 zeroA):=Lib.hid (by rw [hq4];exact HB3.out)
          have HX4:Hid (BoxA w4 wr.heap.size 172 ⟨x,(q:Int),false,false,l,false⟩):=Lib.hid (by rw [hq4];exact HX3.out)
          have HS4:Hid (w.heap.size < w4.heap.size):=Lib.hid (by rw [hq4];exact HS3'.out)
          clear hq4
          by_cases hw:wordsA ⟨x,(q:Int),false,false,l,false⟩=ws
          ·have hsm:Hid (sameW (wordsA ⟨x,(q:Int),false,false,l,false⟩) ws=true):=Lib.hid (decide_eq_true hw)
           have hres:Hid (R=(⟨x,(q:Int),false,false,l,false⟩,0)):=Lib.hid (by rw [←HR.out];exact parse_of HRR.out hw)
           rw [hsm.out]
           clear hw
           obtain ⟨c0,c1,c2,c3,c4,c5⟩:=HX4.out.facts
           simp only at c0 c1 c2 c3 c4 c5
           go_wp2_with (refine wpList_store_acct rfl 172 (.tmp 2) (.tmp 55) rfl w.heap.size zeroA ⟨x,(q:Int),false,false,l,false⟩ 172 rfl rfl HB4.out (by kernel_rfl) ?_;intro w8 hb8 hg8)
           have HFF:=Lib.hid (HF4.out.grown hg8 HF4.out.size (fun j hj=>by cases hj;exact Nat.le_refl _))
           obtain ⟨t0,t1,t2,t3,t4,t5⟩:=hb8.facts
           simp only at t0 t1 t2 t3 t4 t5
           clear hb8 hg8
           refine bodyPost_ret (v:=.tuple #[aggF ⟨x,(q:Int),false,false,l,false⟩,.int .i64 0]) (by simp [results,Tryz.results86,go_sem,t0,t1,t2,t3,t4,t5]) rfl ⟨by rw [hres.out],HFF.out⟩
          ·have hsm:Hid (sameW (wordsA ⟨x,(q:Int),false,false,l,false⟩) ws=false):=Lib.hid (decide_eq_false hw)
           have hng:Hid (¬ Good x l ws q 3):=Lib.hid (fun h=>by rw [HG.out] at h;exact hw h.2)
           rw [hsm.out]
           clear hw
           go_wp2
           go_roundw
           case rel=>first | exact ⟨4,by omega,by first | rfl | go_num,HF4.out,HS4.out,HB4.out,rfl,Lib.hid (HNK.out.next hng.out)⟩ | ((repeat apply Exists.intro);exact ⟨⟨4,by omega,by first | rfl | go_num,HF4.out,HS4.out,HB4.out,rfl,Lib.hid (HNK.out.next hng.out)⟩,rfl⟩)
           case measure=>simp [intOf]
       ·clear hk hk5
        have HG:Hid (Good x l ws q 4 ↔ rightA ⟨x,(q:Int),false,false,l,true⟩=true∧wordsA ⟨x,(q:Int),false,false,l,true⟩=ws):=Lib.hid Iff.rfl
        have HRT:=Lib.hid (rright_any ⟨x,(q:Int),false,false,l,true⟩)
        have HWT:=Lib.hid (rwords_any ⟨x,(q:Int),false,false,l,true⟩)
        have HBA:=Lib.hid (hnx.alloc (Nat.le_of_lt hsz) (cells23 ⟨x,(q:Int),false,false,l,true⟩))
        have HBA':=Lib.hid ((Below.refl wr.heap.size wr).alloc (Nat.le_refl _) (cells23 ⟨x,(q:Int),false,false,l,true⟩))
        have HXA:=Lib.hid (BoxA.new wr ⟨x,(q:Int),false,false,l,true⟩ 172)
        have HBXA:=Lib.hid (hbox.keep HBA'.out hsz)
        have HVA:=Lib.hid (HVW.out.keep HBA'.out)
        cases hr:rightA ⟨x,(q:Int),false,false,l,true⟩ with
        | false =>
          have hng:Hid (¬ Good x l ws q 4):=Lib.hid (fun h=>by rw [HG.out,hr] at h;cases h.1)
          rw [hr] at HRT
          clear hr
          go_wp2_with fail
          refine (HRT.out _).mono ?_
          rintro e w2 ⟨rfl,hb2⟩
          have HF:=Lib.hid (HBA.out.trans (hb2.mono HBA.out.size))
          have HS2:Hid (w.heap.size < w2.heap.size):=Lib.hid (by have:=hb2.size;simp at this;omega)
          have HB2:=Lib.hid (HBXA.out.keep hb2 (by simp;omega))
          clear hb2
          go_wp2
          go_roundw
          case rel=>first | exact ⟨5,by omega,by first | rfl | go_num,HF.out,HS2.out,HB2.out,rfl,Lib.hid (HNK.out.next hng.out)⟩ | ((repeat apply Exists.intro);exact ⟨⟨5,by omega,by first | rfl | go_num,HF.out,HS2.out,HB2.out,rfl,Lib.hid (HNK.out.next hng.out)⟩,rfl⟩)
          case measure=>simp [intOf]
        | true =>
          rw [hr] at HRT
          have HRR:=Lib.hid hr
          clear hr
          go_wp2_with fail
          refine (HRT.out _).mono ?_
          rintro e w2 ⟨rfl,hb2⟩
          have HF:=Lib.hid (HBA.out.trans (hb2.mono HBA.out.size))
          have HS2:Hid (w.heap.size < w2.heap.size):=Lib.hid (by have:=hb2.size;simp at this;omega)
          have HB2:=Lib.hid (HBXA.out.keep hb2 (by simp;omega))
          have HX2:=Lib.hid (HXA.out.keep hb2 (by simp))
          have HSX:Hid (wr.heap.size < w2.heap.size):=Lib.hid (by have:=hb2.size;simp at this;omega)
          have HV2:=Lib.hid (HVA.out.keep hb2)
          clear hb2
          obtain ⟨c0,c1,c2,c3,c4,c5⟩:=HX2.out.facts
          simp only at c0 c1 c2 c3 c4 c5
          go_wp2_with fail
          clear c0 c1 c2 c3 c4 c5
          refine (HWT.out _).mono ?_
          rintro e w3 ⟨v3,rfl,hs3,hb3⟩
          have HS3:=Lib.hid hs3
          have HV3:=Lib.hid (HV2.out.keep hb3)
          have HF3:=Lib.hid (HF.out.trans (hb3.mono HF.out.size))
          have HB3:=Lib.hid (HB2.out.keep hb3 HS2.out)
          have HX3:=Lib.hid (HX2.out.keep hb3 HSX.out)
          have HS3':Hid (w.heap.size < w3.heap.size):=Lib.hid (Nat.lt_of_lt_of_le HS2.out hb3.size)
          clear hs3 hb3
          go_wp2_with fail
          refine (sameWords_any _ _ _ ws _ HS3.out HV3.out).mono ?_
          rintro e w4 ⟨rfl,qq,hq4⟩
          have HF4:Hid (Below w.heap.size w w4):=Lib.hid (by rw [hq4];exact below_drewN HF3.out qq)
          have HB4:Hid (BoxA w4 w.heap.size 172 zeroA):=Lib.hid (by rw [hq4];exact HB3.out)
          have HX4:Hid (BoxA w4 wr.heap.size 172 ⟨x,(q:Int),false,false,l,true⟩):=Lib.hid (by rw [hq4];exact HX3.out)
          have HS4:Hid (w.heap.size < w4.heap.size):=Lib.hid (by rw [hq4];exact HS3'.out)
          clear hq4
          by_cases hw:wordsA ⟨x,(q:Int),false,false,l,true⟩=ws
          ·have hsm:Hid (sameW (wordsA ⟨x,(q:Int),false,false,l,true⟩) ws=true):=Lib.hid (decide_eq_true hw)
           have hres:Hid (R=(⟨x,(q:Int),false,false,l,true⟩,0)):=Lib.hid (by rw [←HR.out];exact parse_of HRR.out hw)
           rw [hsm.out]
           clear hw
           obtain ⟨c0,c1,c2,c3,c4,c5⟩:=HX4.out.facts
           simp only at c0 c1 c2 c3 c4 c5
           go_wp2_with (refine wpList_store_acct rfl 172 (.tmp 2) (.tmp 55) rfl w.heap.size zeroA ⟨x,(q:Int),false,false,l,true⟩ 172 rfl rfl HB4.out (by kernel_rfl) ?_;intro w8 hb8 hg8)
           have HFF:=Lib.hid (HF4.out.grown hg8 HF4.out.size (fun j hj=>by cases hj;exact Nat.le_refl _))
           obtain ⟨t0,t1,t2,t3,t4,t5⟩:=hb8.facts
           simp only at t0 t1 t2 t3 t4 t5
           clear hb8 hg8
           refine bodyPost_ret (v:=.tuple #[aggF ⟨x,(q:Int),false,false,l,true⟩,.int .i64 0]) (by simp [results,Tryz.results86,go_sem,t0,t1,t2,t3,t4,t5]) rfl ⟨by rw [hres.out],HFF.out⟩
          ·have hsm:Hid (sameW (wordsA ⟨x,(q:Int),false,false,l,true⟩) ws=false):=Lib.hid (decide_eq_false hw)
           have hng:Hid (¬ Good x l ws q 4):=Lib.hid (fun h=>by rw [HG.out] at h;exact hw h.2)
           rw [hsm.out]
           clear hw
           go_wp2
           go_roundw
           case rel=>first | exact ⟨5,by omega,by first | rfl | go_num,HF4.out,HS4.out,HB4.out,rfl,Lib.hid (HNK.out.next hng.out)⟩ | ((repeat apply Exists.intro);exact ⟨⟨5,by omega,by first | rfl | go_num,HF4.out,HS4.out,HB4.out,rfl,Lib.hid (HNK.out.next hng.out)⟩,rfl⟩)
           case measure=>simp [intOf]
      ·obtain rfl:k=5:=by omega
       have HNX5:=Lib.hid hnx
       have HBX5:=Lib.hid hbox
       have HSZ5:=Lib.hid hsz
       clear hnx hbox hsz
       go_wp2
       go_roundw
       case rel=>exact ⟨q+1,by omega,by first | rfl | go_num,HNX5.out,HSZ5.out,HBX5.out,rfl,Lib.hid HNK.out.row⟩
       case measure=>simp [intOf];omega
    ·obtain rfl:q=3:=by omega
     have hres:Hid (R=(zeroA,5)):=Lib.hid (by
      rw [←HR.out]
      exact parse_none HX.out HL.out fun c' k' hc' hk'=>HNO.out c' k' hk' (.inl hc'))
     have HNX:=Lib.hid hnx
     go_wp2_with (refine wpList_store_acct rfl 172 (.tmp 2) (.tmp 56) rfl w.heap.size zeroA zeroA 172 rfl rfl hbox (by kernel_rfl) ?_;intro w8 hb8 hg8)
     have HF:=Lib.hid (HNX.out.grown hg8 HNX.out.size (fun j hj=>by cases hj;exact Nat.le_refl _))
     obtain ⟨t0,t1,t2,t3,t4,t5⟩:=hb8.facts
     clear hb8 hg8
     refine bodyPost_ret (v:=.tuple #[aggF zeroA,.int .i64 5]) (by simp [results,Tryz.results86,go_sem,t0,t1,t2,t3,t4,t5]) rfl ⟨by rw [hres.out],HF.out⟩
end Go.Proofs.YtfhhihamndbcnaaGreatDoor
end
section
namespace Go.Proofs.YtfhhihamndbcnaaGreatDoor.Un
open Go.RowKit
theorem wp_store_acct {P:Program} {o:Oper} {act:Act} {w:World} {K:Act→World→Prop} {Q:Exit→Act→World→Prop} (ty:TypeId) (x y:Operand) (ho:o.op=.store ty x y)
 (g:Nat) (z a:Acct) (t:TypeId) (hx:act.eval x=.pointer (some ⟨g,0,none⟩)) (hy:act.eval y=aggF a) (hg:BoxA w g t z) (hi:(P.info? ty).map (·.size)=some 6)
 (h:∀ w',BoxA w' g t a→w.grownBy w' (some g)→K (act.put o.dst undef) w'):o.wp P act w K Q :=
 wp_store_row ty x y ho g _ hx hy t _ hg hi rfl (acct_one a) (h _ (hg.set a) (grownBy_setRow w g _))
def codesD (M:Mast):List (ByteArray × Int):=[(M.res,2),(M.min,2),(M.dif,0),(M.stk,0)]
theorem codesD_cls {M:Mast} {i:Nat} {x:ByteArray} {k:Int} (h:(codesD M)[i]?=some (x,k)):k=if 1 < i then 0 else 2:=by
 match i,h with
 | 0,h=>simp [codesD] at h;simp [h.2.symm]
 | 1,h=>simp [codesD] at h;simp [h.2.symm]
 | 2,h=>simp [codesD] at h;simp [h.2.symm]
 | 3,h=>simp [codesD] at h;simp [h.2.symm]
 | i+4,h=>simp [codesD] at h
def allD (M:Mast):Int :=
 if M.cur=emp then 6
 else if (codesD M).all (fun x=>(findL M.chart x.1).isSome)=false then 6
 else if M.lines.all (fun x=>(findL M.chart x.acc).isSome && (Fl.findF M.flows x.flow).isSome)=false then 6
 else if Fl.wholeTo M.flows 5=false then 8
 else if (codesD M).all (fun x=>specA (findV (findL M.chart x.1)) x.2)=false then 15 else 0
set_option maxRecDepth 100000 in
set_option maxHeartbeats 16000000 in
theorem rall_any (c f e l:Value) (M:Mast) (w:World) (h:MastIn w c f e l M) (hfl:M.flows.length≤1000) :
 Calls Tryz.prog 55 #[aggM c f e l M] w fun en w'=>en=.returned (.int .i64 (allD M))∧Below w.heap.size w w':=by
 have hb0:=(Below.refl w.heap.size w).alloc (Nat.le_refl _) (.cells (cellsM c f e l M) 37)
 have hb1:=hb0.alloc hb0.size (.cells #[.string M.res,.string M.min,.string M.dif,.string M.stk] 9)
 have hbx:=(Below.refl _ (w.alloc (.cells (cellsM c f e l M) 37))).alloc (Nat.le_refl _) (.cells #[.string M.res,.string M.min,.string M.dif,.string M.stk] 9)
 have hn0:=nine_new w c f e l M 37
 have hn1:=hn0.kept hbx
 have hm1:=h.keep hb1
 have hst:=strs_new (w.alloc (.cells (cellsM c f e l M) 37)) ((codesD M).map (·.1)) 9 (by unfold maxLen;simp [codesD])
 rw [World.size_alloc] at hst
 obtain ⟨W1,hW1⟩:∃ W1,(w.alloc (.cells (cellsM c f e l M) 37)).alloc (.cells #[.string M.res,.string M.min,.string M.dif,.string M.stk] 9)=W1:=⟨_,rfl⟩
 have hst1:StrsV W1 (.slice (some ⟨w.heap.size+1,0,none⟩) 4 4) ((codesD M).map (·.1)):=by rw [←hW1];exact hst
 rw [hW1] at hb1 hn1 hm1
 have HB1:=Lib.hid hb1
 have HN1:=Lib.hid hn1
 have HM1:=Lib.hid hm1
 obtain ⟨p,cp,e1,_,_,hst2⟩:=hst1
 cases e1
 have HST:=Lib.hid hst2
 have HCN:Hid ((codesD M).length=4):=Lib.hid rfl
 obtain ⟨pl,cl,el,hcl,hml,_,hlv⟩:=hm1.lines
 subst el
 obtain ⟨n,hn⟩:∃ n,M.lines.length=n:=⟨_,rfl⟩
 rw [hn] at hcl HN1 HM1 hn1 hW1 ⊢
 have HN:=Lib.hid hn
 have HLV:=Lib.hid hlv
 have HFI:=Lib.hid (fun x W hW=>rcfind_any c M.chart x W hW)
 have HKI:=Lib.hid (fun x W hW=>rkind_any f M.flows x W hW)
 have HWH:=Lib.hid (fun W hW=>rwhole_any f M.flows W hW hfl)
 obtain ⟨R,hR⟩:∃ R,allD M=R:=⟨_,rfl⟩
 rw [hR]
 have HR:Hid (allD M=R):=Lib.hid hR
 unfold maxLen at hml
 by_cases hcur:M.cur=emp
 ·have HRF:Hid (R=6):=Lib.hid (by rw [←HR.out];unfold allD;rw [if_pos hcur])
  have hq2:M.cur.toList.isEmpty=true:=by
   have hne:(!M.cur.toList.isEmpty)=false:=by rw [hcur];exact neB_empty
   revert hne;cases M.cur.toList.isEmpty <;> simp
  clear hb0 hb1 hbx hn0 hm1 hst hst2 hn hlv hR h hcur
  obtain ⟨k0,k1,k2,k3,k4,k5,k6,k7,k8⟩:=hn1
  go_enter Tryz.func55,Tryz.ntmps55
  go_wp2
  go_ret
  exact ⟨by rw [HRF.out];rfl,HB1.out⟩
 have HCU:=Lib.hid hcur
 have hq2:M.cur.toList.isEmpty=false:=by
  have hne:(!M.cur.toList.isEmpty)=true:=(neB_iff M.cur).2 hcur
  revert hne;cases M.cur.toList.isEmpty <;> simp
 clear hb0 hb1 hbx hn0 hm1 hst hst2 hn hlv hR h hcur
 obtain ⟨k0,k1,k2,k3,k4,k5,k6,k7,k8⟩:=hn1
 go_enter Tryz.func55,Tryz.ntmps55
 go_wp2
 clear k0 k1 k2 k3 k4 k5 k6 k7 k8 hW1 hq2
 go_loopw [4] (fun si wr=>∃ i:Nat,i≤4∧si=.int .i64 (i:Int)∧Hid (Below W1.heap.size W1 wr)∧Hid (SoFar (fun x:ByteArray × Int=>(findL M.chart x.1).isSome) (codesD M) i)) (fun si _=>4 - (intOf si).toNat)
 case atStart=>exact ⟨0,by omega,rfl,Lib.hid (Below.refl _ _),Lib.hid (SoFar.zero _ _)⟩
 case round =>
  obtain ⟨i,hi,rfl,HB,HSF⟩:=hrel
  by_cases hlt:i < 4
  ·obtain ⟨⟨x,kx⟩,hx⟩:∃ x,(codesD M)[i]?=some x:=⟨_,List.getElem?_eq_getElem (by rw [HCN.out];exact hlt)⟩
   obtain ⟨b,o,e2,hcx⟩:=HST.out i x (by rw [List.getElem?_map,hx];rfl)
   cases e2
   have HX:=Lib.hid hx
   have y0:=cell_later HB.out hcx
   rw [Nat.zero_add] at y0
   have k0:=(HN1.out.keep HB.out HN1.out.lt).c0
   have r0:=fun p:Past wr=>cell_past y0 p
   have r1:=fun p:Past wr=>cell_past k0 p
   obtain ⟨FA,hFA⟩:∃ FA,findV (findL M.chart x)=FA:=⟨_,rfl⟩
   obtain ⟨IS,hIS⟩:∃ IS,(findL M.chart x).isSome=IS:=⟨_,rfl⟩
   have HF:=Lib.hid (HFI.out x)
   rw [hFA,hIS] at HF
   have HIS:=Lib.hid hIS
   have HCH:=Lib.hid (HM1.out.chart.keep HB.out)
   clear hx hcx hFA hIS y0 k0
   go_wp2_with fail
   refine wp_region_plan (.two [0,1,2,3,4,5] 6 (.one [7,8,9] 10 (.one [] 11 (.last [12]))) 10 (.one [] 6 (.one [7,8,9] 11 (.last [12])))) (by kernel_rfl) (by kernel_rfl) (fun d _ _ _ _ h=>by cases d <;> exact h) ?_
   obtain ⟨wq,hwq⟩:∃ wq,wr.drew=wq:=⟨_,rfl⟩
   rw [hwq]
   have HD:Hid (Below wr.heap.size wr wq):=Lib.hid (by rw [←hwq];exact ⟨rfl,rfl,rfl,Nat.le_refl _,fun _ _=>rfl⟩)
   clear hwq
   simp only [wpPlan,pick,nth]
   repeat (go_big_quiet_step (fail))
   refine wpQuiet_nil ?_
   clear r0 r1
   refine ⟨?_,?_⟩
   ·intro K hK
    refine alone_want (by kernel_rfl) ?_
    go_big_op
    refine (HF.out wq (HCH.out.keep HD.out)).mono ?_
    rintro en w2 ⟨rfl,hb2⟩
    have HP2:=Lib.hid (HD.out.trans (hb2.mono HD.out.size))
    clear hb2
    refine hK _ _ (past_in HP2.out) ?_
    clear hK K
    repeat (go_big_quiet_step (fail))
    refine wpQuiet_nil ?_
    intro K hK
    refine alone_want (by kernel_rfl) ?_
    go_big_op
    have HP3:=Lib.hid (HP2.out.alloc HP2.out.size (.cells (encA.cs zeroA).toArray 172))
    refine hK _ _ (past_in HP3.out) ?_
    clear hK K
    refine wpQuiet_nil ?_
    intro K hK
    refine alone_want (by kernel_rfl) ?_
    refine wp_store_acct 172 (.tmp 5) (.tmp 40) rfl w2.heap.size zeroA FA 172 rfl rfl (BoxA.new w2 zeroA _) (by kernel_rfl) ?_
    intro w3 hb3 hg3
    have HP4:=Lib.hid (HP3.out.grown hg3 HP3.out.size (fun j hj=>by cases hj;exact HP2.out.size))
    have HX3:=Lib.hid hb3
    clear hb3 hg3
    refine hK _ _ (past_in HP4.out) ?_
    clear hK K
    simp only [Act.put]
    repeat (go_big_quiet_step (fail))
    refine wpQuiet_nil ?_
    have HBN:=Lib.hid (HB.out.trans (HP4.out.mono HB.out.size))
    cases IS with
    | false =>
      have HRF:Hid (R=6):=Lib.hid (by
       rw [←HR.out];unfold allD
       rw [if_neg HCU.out,if_pos (all_no HX.out HIS.out)])
      go_wp2
      go_ret
      exact ⟨by rw [HRF.out];rfl,HB1.out.trans (HBN.out.mono HB1.out.size)⟩
    | true =>
      have HSN:=Lib.hid (HSF.out.next HX.out HIS.out)
      go_wp2
      go_roundw
      case rel=>exact ⟨i+1,by omega,by go_num,HBN,HSN⟩
      case measure=>simp [intOf];omega
   ·intro K hK
    refine alone_want (by kernel_rfl) ?_
    go_big_op
    have HP2:=Lib.hid (HD.out.alloc HD.out.size (.cells (encA.cs zeroA).toArray 172))
    have hb2:BoxA (wq.alloc (.cells (encA.cs zeroA).toArray 172)) wq.heap.size 172 zeroA:=BoxA.new wq zeroA _
    refine hK _ _ (past_in HP2.out) ?_
    clear hK K
    refine wpQuiet_nil ?_
    intro K hK
    refine alone_want (by kernel_rfl) ?_
    go_big_op
    refine (HF.out _ (HCH.out.keep HP2.out)).mono ?_
    rintro en w2 ⟨rfl,hb3⟩
    have HP3:=Lib.hid (HP2.out.trans (hb3.mono HP2.out.size))
    have HX2:=Lib.hid (hb2.keep hb3 (Array.getElem?_eq_some_iff.1 hb2).1)
    clear hb2 hb3
    refine hK _ _ (past_in HP3.out) ?_
    clear hK K
    repeat (go_big_quiet_step (fail))
    refine wpQuiet_nil ?_
    intro K hK
    refine alone_want (by kernel_rfl) ?_
    refine wp_store_acct 172 (.tmp 5) (.tmp 40) rfl wq.heap.size zeroA FA 172 rfl rfl HX2.out (by kernel_rfl) ?_
    intro w3 hb3 hg3
    have HP4:=Lib.hid (HP3.out.grown hg3 HP3.out.size (fun j hj=>by cases hj;exact HD.out.size))
    have HX3:=Lib.hid hb3
    clear hb3 hg3
    refine hK _ _ (past_in HP4.out) ?_
    clear hK K
    simp only [Act.put]
    repeat (go_big_quiet_step (fail))
    refine wpQuiet_nil ?_
    have HBN:=Lib.hid (HB.out.trans (HP4.out.mono HB.out.size))
    cases IS with
    | false =>
      have HRF:Hid (R=6):=Lib.hid (by
       rw [←HR.out];unfold allD
       rw [if_neg HCU.out,if_pos (all_no HX.out HIS.out)])
      go_wp2
      go_ret
      exact ⟨by rw [HRF.out];rfl,HB1.out.trans (HBN.out.mono HB1.out.size)⟩
    | true =>
      have HSN:=Lib.hid (HSF.out.next HX.out HIS.out)
      go_wp2
      go_roundw
      case rel=>exact ⟨i+1,by omega,by go_num,HBN,HSN⟩
      case measure=>simp [intOf];omega
  ·have HA1:Hid ((codesD M).all (fun x=>(findL M.chart x.1).isSome)=true):=Lib.hid (HSF.out.done (by rw [HCN.out];omega))
   rename World=>wa
   go_wp2
   go_loopw [7] (fun si wr=>∃ i:Nat,i≤n∧si=.int .i64 (i:Int)∧Hid (Below W1.heap.size W1 wr)∧Hid (SoFar (fun x:Lin=>(findL M.chart x.acc).isSome && (Fl.findF M.flows x.flow).isSome) M.lines i)) (fun si _=>n - (intOf si).toNat)
   case atStart=>exact ⟨0,by omega,rfl,HB,Lib.hid (SoFar.zero _ _)⟩
   case round =>
    clear HB HSF
    obtain ⟨i,hi,rfl,HB,HSF⟩:=hrel
    by_cases hlt:i < n
    ·obtain ⟨x,hx⟩:∃ x,M.lines[i]?=some x:=⟨_,List.getElem?_eq_getElem (by rw [HN.out];exact hlt)⟩
     obtain ⟨b,o,rfl,hat⟩:=HLV.out i x hx
     have HX:=Lib.hid hx
     have HAT:=Lib.hid hat
     obtain ⟨d0,d1,d2⟩:=lin3 (hat.keep HB.out hat.lt)
     obtain ⟨k0,k1,k2,k3,k4,k5,k6,k7,k8⟩:=HN1.out.keep HB.out HN1.out.lt
     have r0:=fun p:Past wr=>cell_past d0 p
     have r1:=fun p:Past wr=>cell_past k0 p
     have r2:=fun p:Past wr=>cell_past k3 p
     obtain ⟨FA,hFA⟩:∃ FA,findV (findL M.chart x.acc)=FA:=⟨_,rfl⟩
     obtain ⟨IS,hIS⟩:∃ IS,(findL M.chart x.acc).isSome=IS:=⟨_,rfl⟩
     obtain ⟨KK,hKK⟩:∃ KK,kindO' (Fl.findF M.flows x.flow)=KK:=⟨_,rfl⟩
     obtain ⟨HS,hHS⟩:∃ HS,(Fl.findF M.flows x.flow).isSome=HS:=⟨_,rfl⟩
     have HF:=Lib.hid (HFI.out x.acc)
     have HK:=Lib.hid (HKI.out x.flow)
     rw [hFA,hIS] at HF
     rw [hKK,hHS] at HK
     have HIS:=Lib.hid hIS
     have HHS:=Lib.hid hHS
     have HCH:=Lib.hid (HM1.out.chart.keep HB.out)
     clear hx hat hFA hIS hKK hHS d0 d1 d2 k0 k1 k2 k4 k5 k6 k7 k8
     go_wp2_with fail
     refine wp_region_plan (.two [0,1,2,3,4,5,6,7] 8 (.one [9,10,11] 12 (.one [] 13 (.last [14]))) 12 (.one [] 8 (.one [9,10,11] 13 (.last [14])))) (by kernel_rfl) (by kernel_rfl) (fun d _ _ _ _ h=>by cases d <;> exact h) ?_
     obtain ⟨wq,hwq⟩:∃ wq,wr.drew=wq:=⟨_,rfl⟩
     rw [hwq]
     have HD:Hid (Below wr.heap.size wr wq):=Lib.hid (by rw [←hwq];exact ⟨rfl,rfl,rfl,Nat.le_refl _,fun _ _=>rfl⟩)
     clear hwq
     simp only [wpPlan,pick,nth]
     repeat (go_big_quiet_step (fail))
     refine wpQuiet_nil ?_
     clear r0 r1 r2 k3
     refine ⟨?_,?_⟩
     ·intro K hK
      refine alone_want (by kernel_rfl) ?_
      go_big_op
      refine (HF.out wq (HCH.out.keep HD.out)).mono ?_
      rintro en w2 ⟨rfl,hb2⟩
      have HP2:=Lib.hid (HD.out.trans (hb2.mono HD.out.size))
      clear hb2
      refine hK _ _ (past_in HP2.out) ?_
      clear hK K
      repeat (go_big_quiet_step (fail))
      refine wpQuiet_nil ?_
      intro K hK
      refine alone_want (by kernel_rfl) ?_
      go_big_op
      have HP3:=Lib.hid (HP2.out.alloc HP2.out.size (.cells (encA.cs zeroA).toArray 172))
      refine hK _ _ (past_in HP3.out) ?_
      clear hK K
      refine wpQuiet_nil ?_
      intro K hK
      refine alone_want (by kernel_rfl) ?_
      refine wp_store_acct 172 (.tmp 8) (.tmp 61) rfl w2.heap.size zeroA FA 172 rfl rfl (BoxA.new w2 zeroA _) (by kernel_rfl) ?_
      intro w3 hb3 hg3
      have HP4:=Lib.hid (HP3.out.grown hg3 HP3.out.size (fun j hj=>by cases hj;exact HP2.out.size))
      have HX3:=Lib.hid hb3
      clear hb3 hg3
      refine hK _ _ (past_in HP4.out) ?_
      clear hK K
      simp only [Act.put]
      repeat (go_big_quiet_step (fail))
      refine wpQuiet_nil ?_
      have HBN:=Lib.hid (HB.out.trans (HP4.out.mono HB.out.size))
      obtain ⟨d0,d1,d2⟩:=lin3 (HAT.out.keep HBN.out HAT.out.lt)
      obtain ⟨k0,k1,k2,k3,k4,k5,k6,k7,k8⟩:=HN1.out.keep HBN.out HN1.out.lt
      have s0:=fun p:Past w3=>cell_past d1 p
      have s1:=fun p:Past w3=>cell_past k1 p
      have s2:=fun p:Past w3=>cell_past k3 p
      have HFV:=Lib.hid (HM1.out.flows.keep HBN.out)
      have HD5:Hid (Below w3.heap.size w3 w3.drew):=Lib.hid ⟨rfl,rfl,rfl,Nat.le_refl _,fun _ _=>rfl⟩
      clear d0 d1 d2 k0 k1 k2 k3 k4 k5 k6 k7 k8
      go_wp2_with fail
      refine wp_region_plan (.one [0,1,2,3,4,5,6,7] 8 (.last [9,10,11,12,13])) (by kernel_rfl) (by kernel_rfl) (fun d _ _ _ _ h=>by cases d <;> exact h) ?_
      simp only [wpPlan,pick,nth]
      repeat (go_big_quiet_step (fail))
      refine wpQuiet_nil ?_
      intro K hK
      refine alone_want (by kernel_rfl) ?_
      go_big_op
      refine (HK.out _ (HFV.out.keep HD5.out)).mono ?_
      rintro en w5 ⟨rfl,hb5⟩
      have HP5:=Lib.hid (HD5.out.trans (hb5.mono HD5.out.size))
      have HBM:=Lib.hid (HBN.out.trans (HP5.out.mono HBN.out.size))
      refine hK _ _ (past_in HP5.out) ?_
      clear hK K hb5 s0 s1 s2
      repeat (go_big_quiet_step (fail))
      refine wpQuiet_nil ?_
      have HRX:Hid ((IS && HS)=false→R=6):=Lib.hid (fun hf=>by
       rw [←HR.out];unfold allD
       rw [if_neg HCU.out,if_neg (by rw [HA1.out];simp),if_pos (all_no HX.out (by rw [HIS.out,HHS.out];exact hf))])
      cases IS with
      | false =>
        have HRF:=Lib.hid (HRX.out rfl)
        go_wp2
        go_ret
        exact ⟨by rw [HRF.out];rfl,HB1.out.trans (HBM.out.mono HB1.out.size)⟩
      | true =>
        cases HS with
        | false =>
          have HRF:=Lib.hid (HRX.out rfl)
          go_wp2
          go_ret
          exact ⟨by rw [HRF.out];rfl,HB1.out.trans (HBM.out.mono HB1.out.size)⟩
        | true =>
          have HSN:=Lib.hid (HSF.out.next HX.out (by rw [HIS.out,HHS.out];rfl))
          go_wp2
          go_roundw
          case rel=>exact ⟨i+1,by omega,by go_num,HBM,HSN⟩
          case measure=>simp [intOf];omega
     ·intro K hK
      refine alone_want (by kernel_rfl) ?_
      go_big_op
      have HP2:=Lib.hid (HD.out.alloc HD.out.size (.cells (encA.cs zeroA).toArray 172))
      have hb2:BoxA (wq.alloc (.cells (encA.cs zeroA).toArray 172)) wq.heap.size 172 zeroA:=BoxA.new wq zeroA _
      refine hK _ _ (past_in HP2.out) ?_
      clear hK K
      refine wpQuiet_nil ?_
      intro K hK
      refine alone_want (by kernel_rfl) ?_
      go_big_op
      refine (HF.out _ (HCH.out.keep HP2.out)).mono ?_
      rintro en w2 ⟨rfl,hb3⟩
      have HP3:=Lib.hid (HP2.out.trans (hb3.mono HP2.out.size))
      have HX2:=Lib.hid (hb2.keep hb3 (Array.getElem?_eq_some_iff.1 hb2).1)
      clear hb2 hb3
      refine hK _ _ (past_in HP3.out) ?_
      clear hK K
      repeat (go_big_quiet_step (fail))
      refine wpQuiet_nil ?_
      intro K hK
      refine alone_want (by kernel_rfl) ?_
      refine wp_store_acct 172 (.tmp 8) (.tmp 61) rfl wq.heap.size zeroA FA 172 rfl rfl HX2.out (by kernel_rfl) ?_
      intro w3 hb3 hg3
      have HP4:=Lib.hid (HP3.out.grown hg3 HP3.out.size (fun j hj=>by cases hj;exact HD.out.size))
      have HX3:=Lib.hid hb3
      clear hb3 hg3
      refine hK _ _ (past_in HP4.out) ?_
      clear hK K
      simp only [Act.put]
      repeat (go_big_quiet_step (fail))
      refine wpQuiet_nil ?_
      have HBN:=Lib.hid (HB.out.trans (HP4.out.mono HB.out.size))
      obtain ⟨d0,d1,d2⟩:=lin3 (HAT.out.keep HBN.out HAT.out.lt)
      obtain ⟨k0,k1,k2,k3,k4,k5,k6,k7,k8⟩:=HN1.out.keep HBN.out HN1.out.lt
      have s0:=fun p:Past w3=>cell_past d1 p
      have s1:=fun p:Past w3=>cell_past k1 p
      have s2:=fun p:Past w3=>cell_past k3 p
      have HFV:=Lib.hid (HM1.out.flows.keep HBN.out)
      have HD5:Hid (Below w3.heap.size w3 w3.drew):=Lib.hid ⟨rfl,rfl,rfl,Nat.le_refl _,fun _ _=>rfl⟩
      clear d0 d1 d2 k0 k1 k2 k3 k4 k5 k6 k7 k8
      go_wp2_with fail
      refine wp_region_plan (.one [0,1,2,3,4,5,6,7] 8 (.last [9,10,11,12,13])) (by kernel_rfl) (by kernel_rfl) (fun d _ _ _ _ h=>by cases d <;> exact h) ?_
      simp only [wpPlan,pick,nth]
      repeat (go_big_quiet_step (fail))
      refine wpQuiet_nil ?_
      intro K hK
      refine alone_want (by kernel_rfl) ?_
      go_big_op
      refine (HK.out _ (HFV.out.keep HD5.out)).mono ?_
      rintro en w5 ⟨rfl,hb5⟩
      have HP5:=Lib.hid (HD5.out.trans (hb5.mono HD5.out.size))
      have HBM:=Lib.hid (HBN.out.trans (HP5.out.mono HBN.out.size))
      refine hK _ _ (past_in HP5.out) ?_
      clear hK K hb5 s0 s1 s2
      repeat (go_big_quiet_step (fail))
      refine wpQuiet_nil ?_
      have HRX:Hid ((IS && HS)=false→R=6):=Lib.hid (fun hf=>by
       rw [←HR.out];unfold allD
       rw [if_neg HCU.out,if_neg (by rw [HA1.out];simp),if_pos (all_no HX.out (by rw [HIS.out,HHS.out];exact hf))])
      cases IS with
      | false =>
        have HRF:=Lib.hid (HRX.out rfl)
        go_wp2
        go_ret
        exact ⟨by rw [HRF.out];rfl,HB1.out.trans (HBM.out.mono HB1.out.size)⟩
      | true =>
        cases HS with
        | false =>
          have HRF:=Lib.hid (HRX.out rfl)
          go_wp2
          go_ret
          exact ⟨by rw [HRF.out];rfl,HB1.out.trans (HBM.out.mono HB1.out.size)⟩
        | true =>
          have HSN:=Lib.hid (HSF.out.next HX.out (by rw [HIS.out,HHS.out];rfl))
          go_wp2
          go_roundw
          case rel=>exact ⟨i+1,by omega,by go_num,HBM,HSN⟩
          case measure=>simp [intOf];omega
    ·have HA2:Hid (M.lines.all (fun x=>(findL M.chart x.acc).isSome && (Fl.findF M.flows x.flow).isSome)=true):=Lib.hid (HSF.out.done (by rw [HN.out];omega))
     obtain ⟨k0,k1,k2,k3,k4,k5,k6,k7,k8⟩:=HN1.out.keep HB.out HN1.out.lt
     have HFV:=Lib.hid (HM1.out.flows.keep HB.out)
     obtain ⟨WH,hWH⟩:∃ WH,Fl.wholeTo M.flows 5=WH:=⟨_,rfl⟩
     have HW:=Lib.hid (HWH.out)
     rw [hWH] at HW
     have HHW:=Lib.hid hWH
     clear hWH
     go_wp2_with fail
     refine (HW.out _ HFV.out).mono ?_
     rintro en w5 ⟨rfl,hb5⟩
     have HB5:=Lib.hid (HB.out.trans (hb5.mono HB.out.size))
     clear hb5 k0 k1 k2 k3 k4 k5 k6 k7 k8
     cases WH with
     | false =>
       have HRF:Hid (R=8):=Lib.hid (by
        rw [←HR.out];unfold allD
        rw [if_neg HCU.out,if_neg (by rw [HA1.out];simp),if_neg (by rw [HA2.out];simp),if_pos HHW.out])
       go_wp2
       go_ret
       exact ⟨by rw [HRF.out];rfl,HB1.out.trans (HB5.out.mono HB1.out.size)⟩
     | true =>
       go_wp2
       go_loopw [12] (fun si wr=>∃ i:Nat,i≤4∧si=.int .i64 (i:Int)∧Hid (Below W1.heap.size W1 wr)∧Hid (SoFar (fun x:ByteArray × Int=>specA (findV (findL M.chart x.1)) x.2) (codesD M) i)) (fun si _=>4 - (intOf si).toNat)
       case atStart=>exact ⟨0,by omega,rfl,HB5,Lib.hid (SoFar.zero _ _)⟩
       case round =>
        clear HB HSF
        obtain ⟨i,hi,rfl,HB,HSF⟩:=hrel
        by_cases hlt:i < 4
        ·obtain ⟨⟨x,kx⟩,hx⟩:∃ x,(codesD M)[i]?=some x:=⟨_,List.getElem?_eq_getElem (by rw [HCN.out];exact hlt)⟩
         obtain ⟨b,o,e2,hcx⟩:=HST.out i x (by rw [List.getElem?_map,hx];rfl)
         cases e2
         have HX:=Lib.hid hx
         have hkx:=codesD_cls hx
         have y0:=cell_later HB.out hcx
         rw [Nat.zero_add] at y0
         have k0:=(HN1.out.keep HB.out HN1.out.lt).c0
         have r0:=fun p:Past wr=>cell_past y0 p
         have r1:=fun p:Past wr=>cell_past k0 p
         obtain ⟨FA,hFA⟩:∃ FA,findV (findL M.chart x)=FA:=⟨_,rfl⟩
         obtain ⟨IS,hIS⟩:∃ IS,(findL M.chart x).isSome=IS:=⟨_,rfl⟩
         have HF:=Lib.hid (HFI.out x)
         rw [hFA,hIS] at HF
         have HFA:=Lib.hid hFA
         have HCH:=Lib.hid (HM1.out.chart.keep HB.out)
         clear hx hcx hFA hIS y0 k0
         go_wp2_with fail
         refine wp_region_plan (.two [0,1,2,3,4,5] 6 (.one [7,8,9] 10 (.one [] 11 (.last [12]))) 10 (.one [] 6 (.one [7,8,9] 11 (.last [12])))) (by kernel_rfl) (by kernel_rfl) (fun d _ _ _ _ h=>by cases d <;> exact h) ?_
         obtain ⟨wq,hwq⟩:∃ wq,wr.drew=wq:=⟨_,rfl⟩
         rw [hwq]
         have HD:Hid (Below wr.heap.size wr wq):=Lib.hid (by rw [←hwq];exact ⟨rfl,rfl,rfl,Nat.le_refl _,fun _ _=>rfl⟩)
         clear hwq
         simp only [wpPlan,pick,nth]
         repeat (go_big_quiet_step (fail))
         refine wpQuiet_nil ?_
         clear r0 r1
         refine ⟨?_,?_⟩
         ·intro K hK
          refine alone_want (by kernel_rfl) ?_
          go_big_op
          refine (HF.out wq (HCH.out.keep HD.out)).mono ?_
          rintro en w2 ⟨rfl,hb2⟩
          have HP2:=Lib.hid (HD.out.trans (hb2.mono HD.out.size))
          clear hb2
          refine hK _ _ (past_in HP2.out) ?_
          clear hK K
          repeat (go_big_quiet_step (fail))
          refine wpQuiet_nil ?_
          intro K hK
          refine alone_want (by kernel_rfl) ?_
          go_big_op
          have HP3:=Lib.hid (HP2.out.alloc HP2.out.size (.cells (encA.cs zeroA).toArray 172))
          refine hK _ _ (past_in HP3.out) ?_
          clear hK K
          refine wpQuiet_nil ?_
          intro K hK
          refine alone_want (by kernel_rfl) ?_
          refine wp_store_acct 172 (.tmp 13) (.tmp 97) rfl w2.heap.size zeroA FA 172 rfl rfl (BoxA.new w2 zeroA _) (by kernel_rfl) ?_
          intro w3 hb3 hg3
          have HP4:=Lib.hid (HP3.out.grown hg3 HP3.out.size (fun j hj=>by cases hj;exact HP2.out.size))
          have HX3:=Lib.hid hb3
          clear hb3 hg3
          refine hK _ _ (past_in HP4.out) ?_
          clear hK K
          simp only [Act.put]
          repeat (go_big_quiet_step (fail))
          refine wpQuiet_nil ?_
          have HBN:=Lib.hid (HB.out.trans (HP4.out.mono HB.out.size))
          obtain ⟨q0,q1,q2,q3,q4,q5⟩:=HX3.out.facts
          obtain ⟨SP,hSP⟩:∃ SP,specA FA kx=SP:=⟨_,rfl⟩
          have HSP:=Lib.hid hSP
          have HSC:=Lib.hid (fun W=>special_any FA kx W)
          rw [hSP] at HSC
          clear hSP
          by_cases hi1:1 < i
          ·rw [if_pos hi1] at hkx
           subst hkx
           have hi1z:(1:Int) < (i:Int):=by omega
           go_wp2_with fail
           refine (HSC.out _).mono ?_
           rintro en w5 ⟨rfl,hb5⟩
           have HBM:=Lib.hid (HBN.out.trans (hb5.mono HBN.out.size))
           clear hb5 q0 q1 q2 q3 q4 q5
           cases SP with
           | false =>
             have HRF:Hid (R=15):=Lib.hid (by
              rw [←HR.out];unfold allD
              rw [if_neg HCU.out,if_neg (by rw [HA1.out];simp),if_neg (by rw [HA2.out];simp),if_neg (by rw [HHW.out];simp),if_pos (all_no HX.out (by rw [HFA.out];exact HSP.out))])
             go_wp2
             go_ret
             exact ⟨by rw [HRF.out];rfl,HB1.out.trans (HBM.out.mono HB1.out.size)⟩
           | true =>
             have HSN:=Lib.hid (HSF.out.next HX.out (by rw [HFA.out];exact HSP.out))
             go_wp2
             go_roundw
             case rel=>exact ⟨i+1,by omega,by go_num,HBM,HSN⟩
             case measure=>simp [intOf];omega
          ·rw [if_neg hi1] at hkx
           subst hkx
           have hi1z:¬ (1:Int) < (i:Int):=by omega
           go_wp2_with fail
           refine (HSC.out _).mono ?_
           rintro en w5 ⟨rfl,hb5⟩
           have HBM:=Lib.hid (HBN.out.trans (hb5.mono HBN.out.size))
           clear hb5 q0 q1 q2 q3 q4 q5
           cases SP with
           | false =>
             have HRF:Hid (R=15):=Lib.hid (by
              rw [←HR.out];unfold allD
              rw [if_neg HCU.out,if_neg (by rw [HA1.out];simp),if_neg (by rw [HA2.out];simp),if_neg (by rw [HHW.out];simp),if_pos (all_no HX.out (by rw [HFA.out];exact HSP.out))])
             go_wp2
             go_ret
             exact ⟨by rw [HRF.out];rfl,HB1.out.trans (HBM.out.mono HB1.out.size)⟩
           | true =>
             have HSN:=Lib.hid (HSF.out.next HX.out (by rw [HFA.out];exact HSP.out))
             go_wp2
             go_roundw
             case rel=>exact ⟨i+1,by omega,by go_num,HBM,HSN⟩
             case measure=>simp [intOf];omega
         ·intro K hK
          refine alone_want (by kernel_rfl) ?_
          go_big_op
          have HP2:=Lib.hid (HD.out.alloc HD.out.size (.cells (encA.cs zeroA).toArray 172))
          have hb2:BoxA (wq.alloc (.cells (encA.cs zeroA).toArray 172)) wq.heap.size 172 zeroA:=BoxA.new wq zeroA _
          refine hK _ _ (past_in HP2.out) ?_
          clear hK K
          refine wpQuiet_nil ?_
          intro K hK
          refine alone_want (by kernel_rfl) ?_
          go_big_op
          refine (HF.out _ (HCH.out.keep HP2.out)).mono ?_
          rintro en w2 ⟨rfl,hb3⟩
          have HP3:=Lib.hid (HP2.out.trans (hb3.mono HP2.out.size))
          have HX2:=Lib.hid (hb2.keep hb3 (Array.getElem?_eq_some_iff.1 hb2).1)
          clear hb2 hb3
          refine hK _ _ (past_in HP3.out) ?_
          clear hK K
          repeat (go_big_quiet_step (fail))
          refine wpQuiet_nil ?_
          intro K hK
          refine alone_want (by kernel_rfl) ?_
          refine wp_store_acct 172 (.tmp 13) (.tmp 97) rfl wq.heap.size zeroA FA 172 rfl rfl HX2.out (by kernel_rfl) ?_
          intro w3 hb3 hg3
          have HP4:=Lib.hid (HP3.out.grown hg3 HP3.out.size (fun j hj=>by cases hj;exact HD.out.size))
          have HX3:=Lib.hid hb3
          clear hb3 hg3
          refine hK _ _ (past_in HP4.out) ?_
          clear hK K
          simp only [Act.put]
          repeat (go_big_quiet_step (fail))
          refine wpQuiet_nil ?_
          have HBN:=Lib.hid (HB.out.trans (HP4.out.mono HB.out.size))
          obtain ⟨q0,q1,q2,q3,q4,q5⟩:=HX3.out.facts
          obtain ⟨SP,hSP⟩:∃ SP,specA FA kx=SP:=⟨_,rfl⟩
          have HSP:=Lib.hid hSP
          have HSC:=Lib.hid (fun W=>special_any FA kx W)
          rw [hSP] at HSC
          clear hSP
          by_cases hi1:1 < i
          ·rw [if_pos hi1] at hkx
           subst hkx
           have hi1z:(1:Int) < (i:Int):=by omega
           go_wp2_with fail
           refine (HSC.out _).mono ?_
           rintro en w5 ⟨rfl,hb5⟩
           have HBM:=Lib.hid (HBN.out.trans (hb5.mono HBN.out.size))
           clear hb5 q0 q1 q2 q3 q4 q5
           cases SP with
           | false =>
             have HRF:Hid (R=15):=Lib.hid (by
              rw [←HR.out];unfold allD
              rw [if_neg HCU.out,if_neg (by rw [HA1.out];simp),if_neg (by rw [HA2.out];simp),if_neg (by rw [HHW.out];simp),if_pos (all_no HX.out (by rw [HFA.out];exact HSP.out))])
             go_wp2
             go_ret
             exact ⟨by rw [HRF.out];rfl,HB1.out.trans (HBM.out.mono HB1.out.size)⟩
           | true =>
             have HSN:=Lib.hid (HSF.out.next HX.out (by rw [HFA.out];exact HSP.out))
             go_wp2
             go_roundw
             case rel=>exact ⟨i+1,by omega,by go_num,HBM,HSN⟩
             case measure=>simp [intOf];omega
          ·rw [if_neg hi1] at hkx
           subst hkx
           have hi1z:¬ (1:Int) < (i:Int):=by omega
           go_wp2_with fail
           refine (HSC.out _).mono ?_
           rintro en w5 ⟨rfl,hb5⟩
           have HBM:=Lib.hid (HBN.out.trans (hb5.mono HBN.out.size))
           clear hb5 q0 q1 q2 q3 q4 q5
           cases SP with
           | false =>
             have HRF:Hid (R=15):=Lib.hid (by
              rw [←HR.out];unfold allD
              rw [if_neg HCU.out,if_neg (by rw [HA1.out];simp),if_neg (by rw [HA2.out];simp),if_neg (by rw [HHW.out];simp),if_pos (all_no HX.out (by rw [HFA.out];exact HSP.out))])
             go_wp2
             go_ret
             exact ⟨by rw [HRF.out];rfl,HB1.out.trans (HBM.out.mono HB1.out.size)⟩
           | true =>
             have HSN:=Lib.hid (HSF.out.next HX.out (by rw [HFA.out];exact HSP.out))
             go_wp2
             go_roundw
             case rel=>exact ⟨i+1,by omega,by go_num,HBM,HSN⟩
             case measure=>simp [intOf];omega
        ·have HA3:Hid ((codesD M).all (fun x=>specA (findV (findL M.chart x.1)) x.2)=true):=Lib.hid (HSF.out.done (by rw [HCN.out];omega))
         have HRF:Hid (R=0):=Lib.hid (by
          rw [←HR.out];unfold allD
          rw [if_neg HCU.out,if_neg (by rw [HA1.out];simp),if_neg (by rw [HA2.out];simp),if_neg (by rw [HHW.out];simp),if_neg (by rw [HA3.out];simp)])
         go_wp2
         go_ret
         exact ⟨by rw [HRF.out];rfl,HB1.out.trans (HB.out.mono HB1.out.size)⟩
end Go.Proofs.YtfhhihamndbcnaaGreatDoor.Un
end
