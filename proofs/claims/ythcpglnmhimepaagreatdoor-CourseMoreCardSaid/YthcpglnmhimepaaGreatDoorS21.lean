/- ChartDocRight ChartDocWords -/
import Derived.Test.YthcpglnmhimepaaGreatDoorS16
section
namespace Go.Proofs.YthcpglnmhimepaaGreatDoor
open Go.RowKit
set_option maxRecDepth 100000 in
set_option maxHeartbeats 8000000 in
theorem rright_any (a:Acct) (w:World):Calls Tryz.prog 113 #[aggA a] w fun e w'=>e=.returned (.bool (rightA a))∧Below w.heap.size w w':=by
 have HB:=Lib.hid ((Below.refl w.heap.size w).alloc (Nat.le_refl _) (.cells #[.string a.code,.int .i64 a.cls,.bool a.cash,.bool a.both,.string a.fixed,.bool a.worn] 157))
 obtain ⟨r,hr⟩:∃ r,rightA a=r:=⟨_,rfl⟩
 rw [hr]
 have HR:=Lib.hid hr
 clear hr
 obtain ⟨co,cl,ca,mu,fi,wo⟩:=a
 simp only at HB HR ⊢
 cases hc:nmB co with
 | false =>
   have HC:=Lib.hid hc
   clear hc
   go_enter Tryz.func113,Tryz.ntmps113
   go_wp2_with (go_at_call 52;refine (rname_is co _ HC.out _).mono ?_;rintro e w' ⟨rfl,rfl⟩)
   go_ret
   exact ⟨ret_bool (by rw [←HR.out];simp [rightA,HC.out]),HB.out⟩
 | true =>
   have HC:=Lib.hid hc
   clear hc
   by_cases h0:cl < 0
   ·go_enter Tryz.func113,Tryz.ntmps113
    go_wp2_with (go_at_call 52;refine (rname_is co _ HC.out _).mono ?_;rintro e w' ⟨rfl,rfl⟩)
    go_ret
    exact ⟨ret_bool (by rw [←HR.out];have:¬ 0≤cl:=(by omega);simp [rightA,this]),HB.out⟩
   ·by_cases h2:2 < cl
    ·go_enter Tryz.func113,Tryz.ntmps113
     go_wp2_with (go_at_call 52;refine (rname_is co _ HC.out _).mono ?_;rintro e w' ⟨rfl,rfl⟩)
     go_ret
     exact ⟨ret_bool (by rw [←HR.out];have:¬ cl < 3:=(by omega);simp [rightA,this]),HB.out⟩
    ·by_cases hf:fi=⟨#[]⟩
     ·subst hf
      rcases (by omega:cl=0∨cl=1∨cl=2) with rfl | rfl | rfl
      all_goals
       clear h0 h2
       cases ca <;> cases mu <;> cases wo
       all_goals
        go_enter Tryz.func113,Tryz.ntmps113
        go_wp2_with (go_at_call 52;refine (rname_is co _ HC.out _).mono ?_;rintro e w' ⟨rfl,rfl⟩)
        go_ret
        exact ⟨ret_bool (by rw [←HR.out];simp [rightA,marksA,HC.out,neB_empty]),HB.out⟩
     ·have hn:=(neB_iff fi).2 hf
      have HN:=Lib.hid hn
      unfold neB at hn
      rcases (by omega:cl=0∨cl=1∨cl=2) with rfl | rfl | rfl
      ·clear h0 h2
       cases hm:nmB fi <;> cases ca <;> cases mu <;> cases wo
       all_goals
        have HM:=Lib.hid hm
        clear hm
        go_enter Tryz.func113,Tryz.ntmps113
        go_wp2_with fail
        refine (rname_is co _ HC.out _).mono ?_
        rintro e w' ⟨rfl,rfl⟩
        go_wp2_with (go_at_call 52;refine (rname_is fi _ HM.out _).mono ?_;rintro e w' ⟨rfl,rfl⟩)
        go_ret
        exact ⟨ret_bool (by rw [←HR.out];simp [rightA,marksA,HC.out,HM.out,HN.out]),HB.out⟩
      all_goals
       clear h0 h2
       cases ca <;> cases mu <;> cases wo
       all_goals
        go_enter Tryz.func113,Tryz.ntmps113
        go_wp2_with (go_at_call 52;refine (rname_is co _ HC.out _).mono ?_;rintro e w' ⟨rfl,rfl⟩)
        go_ret
        exact ⟨ret_bool (by rw [←HR.out];cases hm:nmB fi <;> simp [rightA,marksA,HN.out,hm]),HB.out⟩
end Go.Proofs.YthcpglnmhimepaaGreatDoor
end
section
namespace Go.Proofs.YthcpglnmhimepaaGreatDoor
open Go.RowKit
theorem own_three2 (w:World) (o:Obj) (x y z:ByteArray) (t:TypeId):((w.alloc o).alloc (.cells #[.string x,.string y,.string z] t)).ownsRow w.heap.size t 1 (.slice (some ⟨w.heap.size+1,0,none⟩) 3 3) 3 ([x,y,z].map Value.string):=by
 have:=own_three (w.alloc o) x y z t
 rw [World.size_alloc] at this
 exact row_base this (by omega)
end Go.Proofs.YthcpglnmhimepaaGreatDoor
namespace Go.Proofs.YthcpglnmhimepaaGreatDoor.Ow
open Go.RowKit
set_option maxRecDepth 100000 in
set_option maxHeartbeats 4000000 in
theorem rwords_no (a:Acct) (w:World) (h:rightA a=false):Calls Tryz.prog 115 #[aggF a] w (StrsOwned w (wordsA a)):=by
 have HR:=Lib.hid (rright_any a)
 rw [h] at HR
 rw [words_nil h]
 have HB:=Lib.hid ((Below.refl w.heap.size w).alloc (Nat.le_refl _) (.cells #[.string a.code,.int .i64 a.cls,.bool a.cash,.bool a.both,.string a.fixed,.bool a.worn] 157))
 clear h
 go_enter Tryz.func115,Tryz.ntmps115
 go_wp2_with fail
 refine (HR.out _).mono ?_
 rintro e w1 ⟨rfl,hb1⟩
 have HB1:=Lib.hid hb1
 clear hb1
 go_wp2
 go_ret
 exact ⟨_,rfl,World.ownsRow_nil _ _ _ _,HB.out.trans (HB1.out.mono HB.out.size)⟩
theorem new_cells3 (w:World) (o o2:Obj) (cs:List Value) (t:TypeId):∀ (j:Nat) u,cs[j]?=some u→(((w.alloc o).alloc o2).alloc (.cells cs.toArray t)).cell? ((⟨w.heap.size+1+1,0,none⟩:Addr).add j)=some u:=fun j u hj=>by
 have:=new_cells2 (w.alloc o) o2 cs t j u hj
 rwa [World.size_alloc] at this
set_option maxRecDepth 100000 in
set_option maxHeartbeats 4000000 in
theorem rwords_plain (co:ByteArray) (cl:Int) (w:World) (h:rightA ⟨co,cl,false,false,⟨#[]⟩,false⟩=true):Calls Tryz.prog 115 #[aggF ⟨co,cl,false,false,⟨#[]⟩,false⟩] w (StrsOwned w (wordsA ⟨co,cl,false,false,⟨#[]⟩,false⟩)):=by
 have HR:=Lib.hid (rright_any ⟨co,cl,false,false,⟨#[]⟩,false⟩)
 rw [h] at HR
 have hcl:=(right_parts h).2.1
 simp only at hcl
 have HW:Hid (wordsA ⟨co,cl,false,false,⟨#[]⟩,false⟩=[tAccount,co,clsW cl]):=Lib.hid (by unfold wordsA;rw [if_pos h];simp [markW,neB_empty])
 rw [HW.out]
 obtain ⟨i0,hi,hz0,hz1,hz2⟩:=info_parts info_str
 have HI:=Lib.hid (And.intro hi (And.intro hz0 (And.intro hz1 hz2)))
 clear h HW hi hz0 hz1 hz2
 have HB:=Lib.hid ((Below.refl w.heap.size w).alloc (Nat.le_refl _) (.cells #[.string co,.int .i64 cl,.bool false,.bool false,.string ⟨#[]⟩,.bool false] 157))
 have HX0:=Lib.hid (BoxA.new w ⟨co,cl,false,false,⟨#[]⟩,false⟩ 157)
 rcases hcl with rfl | rfl | rfl
 all_goals
  go_enter Tryz.func115,Tryz.ntmps115
  go_wp2_with fail
  refine (HR.out _).mono ?_
  rintro e w1 ⟨rfl,hb1⟩
  have HB1:=Lib.hid (HB.out.trans (hb1.mono HB.out.size))
  have hlt:w.heap.size < w1.heap.size:=by have:=hb1.size;simp at this;omega
  have HX1:=Lib.hid (HX0.out.keep hb1 (by simp))
  obtain ⟨c0,c1,c2,c3,c4,c5⟩:=HX1.out.facts
  simp only at c0 c1 c2 c3 c4 c5
  clear hb1
  go_wp2
  go_region
  go_wp2
  go_ret
  exact ⟨_,rfl,row_base (own_three2 w1 _ tAccount _ _ _) (by have:=HB1.out.size;omega),below_drewN ((HB1.out.alloc HB1.out.size _).alloc (by have:=HB1.out.size;simp;omega) _) 1⟩
set_option maxRecDepth 100000 in
set_option maxHeartbeats 4000000 in
theorem rwords_cash (co:ByteArray) (w:World) (h:rightA ⟨co,0,true,false,⟨#[]⟩,false⟩=true):Calls Tryz.prog 115 #[aggF ⟨co,0,true,false,⟨#[]⟩,false⟩] w (StrsOwned w (wordsA ⟨co,0,true,false,⟨#[]⟩,false⟩)):=by
 have HR:=Lib.hid (rright_any ⟨co,0,true,false,⟨#[]⟩,false⟩)
 rw [h] at HR
 have HW:Hid (wordsA ⟨co,0,true,false,⟨#[]⟩,false⟩=[tAccount,co,tAsset,tCash]):=Lib.hid (by unfold wordsA;rw [if_pos h];simp [markW,clsW])
 rw [HW.out]
 obtain ⟨i0,hi,hz0,hz1,hz2⟩:=info_parts info_str
 have HI:=Lib.hid (And.intro hi (And.intro hz0 (And.intro hz1 hz2)))
 clear h HW hi hz0 hz1 hz2
 have HB:=Lib.hid ((Below.refl w.heap.size w).alloc (Nat.le_refl _) (.cells #[.string co,.int .i64 0,.bool true,.bool false,.string ⟨#[]⟩,.bool false] 157))
 have HX0:=Lib.hid (BoxA.new w ⟨co,0,true,false,⟨#[]⟩,false⟩ 157)
 go_enter Tryz.func115,Tryz.ntmps115
 go_wp2_with fail
 refine (HR.out _).mono ?_
 rintro e w1 ⟨rfl,hb1⟩
 have HB1:=Lib.hid (HB.out.trans (hb1.mono HB.out.size))
 have hlt:w.heap.size < w1.heap.size:=by have:=hb1.size;simp at this;omega
 have HX1:=Lib.hid (HX0.out.keep hb1 (by simp))
 obtain ⟨c0,c1,c2,c3,c4,c5⟩:=HX1.out.facts
 simp only at c0 c1 c2 c3 c4 c5
 clear hb1
 go_wp2
 go_region
 go_wp2_with (at_builtin;refine wpList_append_own _ rfl _ _ 66 rfl w1.heap.size 9 i0 (.string ⟨#[]⟩) 1 16 Tryz.underlying66 HI.out.1 HI.out.2.1 HI.out.2.2.1 HI.out.2.2.2 rfl (by decide) _ 3 _ rfl ((own_three2 w1 _ tAccount _ _ _).alloc _) ⟨w1.heap.size+1+1,0,none⟩ 1 1 [.string tCash] rfl rfl (new_cells3 w1 _ _ [.string tCash] _) (by intro u hu;simp at hu;rcases hu with rfl <;> rfl) (by unfold maxLen;omega) (by omega) (by simp;omega) ?_;intro v' w2 hown' hgrow _;have HF1:=Lib.hid (below_grown (below_drewN ((((Below.refl w1.heap.size w1).alloc (Nat.le_refl _) _).alloc (by simp) _).alloc (by simp;omega) _) 1) (by simp;omega) ((own_three2 w1 _ tAccount _ _ _).alloc _) hgrow);obtain ⟨k0,k1,k2,k3,k4,k5⟩:=(HX1.out.keep HF1.out hlt).facts;simp only at k0 k1 k2 k3 k4 k5)
 have HF:=Lib.hid (HB1.out.trans (HF1.out.mono HB1.out.size))
 clear hgrow
 go_wp2
 go_ret
 exact ⟨_,rfl,own_words (ws:=[tAccount,co,tAsset,tCash]) hown' (by have:=HB1.out.size;omega),HF.out⟩
set_option maxRecDepth 100000 in
set_option maxHeartbeats 4000000 in
theorem rwords_both (co:ByteArray) (cl:Int) (w:World) (h:rightA ⟨co,cl,false,true,⟨#[]⟩,false⟩=true) (h2:cl≠2):Calls Tryz.prog 115 #[aggF ⟨co,cl,false,true,⟨#[]⟩,false⟩] w (StrsOwned w (wordsA ⟨co,cl,false,true,⟨#[]⟩,false⟩)):=by
 have HR:=Lib.hid (rright_any ⟨co,cl,false,true,⟨#[]⟩,false⟩)
 rw [h] at HR
 have hcl:=(right_parts h).2.1
 simp only at hcl
 have HW:Hid (wordsA ⟨co,cl,false,true,⟨#[]⟩,false⟩=[tAccount,co,clsW cl,tMutual]):=Lib.hid (by unfold wordsA;rw [if_pos h];simp [markW])
 rw [HW.out]
 obtain ⟨i0,hi,hz0,hz1,hz2⟩:=info_parts info_str
 have HI:=Lib.hid (And.intro hi (And.intro hz0 (And.intro hz1 hz2)))
 clear h HW hi hz0 hz1 hz2
 have HB:=Lib.hid ((Below.refl w.heap.size w).alloc (Nat.le_refl _) (.cells #[.string co,.int .i64 cl,.bool false,.bool true,.string ⟨#[]⟩,.bool false] 157))
 have HX0:=Lib.hid (BoxA.new w ⟨co,cl,false,true,⟨#[]⟩,false⟩ 157)
 rcases (by omega:cl=0∨cl=1) with rfl | rfl
 all_goals
  go_enter Tryz.func115,Tryz.ntmps115
  go_wp2_with fail
  refine (HR.out _).mono ?_
  rintro e w1 ⟨rfl,hb1⟩
  have HB1:=Lib.hid (HB.out.trans (hb1.mono HB.out.size))
  have hlt:w.heap.size < w1.heap.size:=by have:=hb1.size;simp at this;omega
  have HX1:=Lib.hid (HX0.out.keep hb1 (by simp))
  obtain ⟨c0,c1,c2,c3,c4,c5⟩:=HX1.out.facts
  simp only at c0 c1 c2 c3 c4 c5
  clear hb1
  go_wp2
  go_region
  go_wp2_with (at_builtin;refine wpList_append_own _ rfl _ _ 66 rfl w1.heap.size 9 i0 (.string ⟨#[]⟩) 1 16 Tryz.underlying66 HI.out.1 HI.out.2.1 HI.out.2.2.1 HI.out.2.2.2 rfl (by decide) _ 3 _ rfl ((own_three2 w1 _ tAccount _ _ _).alloc _) ⟨w1.heap.size+1+1,0,none⟩ 1 1 [.string tMutual] rfl rfl (new_cells3 w1 _ _ [.string tMutual] _) (by intro u hu;simp at hu;rcases hu with rfl <;> rfl) (by unfold maxLen;omega) (by omega) (by simp;omega) ?_;intro v' w2 hown' hgrow _;have HF1:=Lib.hid (below_grown (below_drewN ((((Below.refl w1.heap.size w1).alloc (Nat.le_refl _) _).alloc (by simp) _).alloc (by simp;omega) _) 1) (by simp;omega) ((own_three2 w1 _ tAccount _ _ _).alloc _) hgrow);obtain ⟨k0,k1,k2,k3,k4,k5⟩:=(HX1.out.keep HF1.out hlt).facts;simp only at k0 k1 k2 k3 k4 k5)
  have HF:=Lib.hid (HB1.out.trans (HF1.out.mono HB1.out.size))
  clear hgrow
  go_wp2
  go_ret
  exact ⟨_,rfl,own_words (ws:=[tAccount,co,_,tMutual]) hown' (by have:=HB1.out.size;omega),HF.out⟩
set_option maxRecDepth 100000 in
set_option maxHeartbeats 4000000 in
theorem rwords_fixed (co fi:ByteArray) (w:World) (h:rightA ⟨co,0,false,false,fi,false⟩=true) (hf:neB fi=true):Calls Tryz.prog 115 #[aggF ⟨co,0,false,false,fi,false⟩] w (StrsOwned w (wordsA ⟨co,0,false,false,fi,false⟩)):=by
 have HR:=Lib.hid (rright_any ⟨co,0,false,false,fi,false⟩)
 rw [h] at HR
 have HW:Hid (wordsA ⟨co,0,false,false,fi,false⟩=[tAccount,co,tAsset,tFixed,fi]):=Lib.hid (by unfold wordsA;rw [if_pos h];simp [markW,clsW,hf])
 rw [HW.out]
 obtain ⟨i0,hi,hz0,hz1,hz2⟩:=info_parts info_str
 have HI:=Lib.hid (And.intro hi (And.intro hz0 (And.intro hz1 hz2)))
 clear h HW hi hz0 hz1 hz2
 have HB:=Lib.hid ((Below.refl w.heap.size w).alloc (Nat.le_refl _) (.cells #[.string co,.int .i64 0,.bool false,.bool false,.string fi,.bool false] 157))
 have HX0:=Lib.hid (BoxA.new w ⟨co,0,false,false,fi,false⟩ 157)
 have HN:=Lib.hid hf
 unfold neB at hf
 go_enter Tryz.func115,Tryz.ntmps115
 go_wp2_with fail
 refine (HR.out _).mono ?_
 rintro e w1 ⟨rfl,hb1⟩
 have HB1:=Lib.hid (HB.out.trans (hb1.mono HB.out.size))
 have hlt:w.heap.size < w1.heap.size:=by have:=hb1.size;simp at this;omega
 have HX1:=Lib.hid (HX0.out.keep hb1 (by simp))
 obtain ⟨c0,c1,c2,c3,c4,c5⟩:=HX1.out.facts
 simp only at c0 c1 c2 c3 c4 c5
 clear hb1
 go_wp2
 go_region
 go_wp2_with (at_builtin;refine wpList_append_own _ rfl _ _ 66 rfl w1.heap.size 9 i0 (.string ⟨#[]⟩) 1 16 Tryz.underlying66 HI.out.1 HI.out.2.1 HI.out.2.2.1 HI.out.2.2.2 rfl (by decide) _ 3 _ rfl ((own_three2 w1 _ tAccount _ _ _).alloc _) ⟨w1.heap.size+1+1,0,none⟩ 2 2 [.string tFixed,.string fi] rfl rfl (new_cells3 w1 _ _ [.string tFixed,.string fi] _) (by intro u hu;simp at hu;rcases hu with rfl | rfl <;> rfl) (by unfold maxLen;omega) (by omega) (by simp;omega) ?_;intro v' w2 hown' hgrow _;have HF1:=Lib.hid (below_grown (below_drewN ((((Below.refl w1.heap.size w1).alloc (Nat.le_refl _) _).alloc (by simp) _).alloc (by simp;omega) _) 1) (by simp;omega) ((own_three2 w1 _ tAccount _ _ _).alloc _) hgrow);obtain ⟨k0,k1,k2,k3,k4,k5⟩:=(HX1.out.keep HF1.out hlt).facts;simp only at k0 k1 k2 k3 k4 k5)
 have HF:=Lib.hid (HB1.out.trans (HF1.out.mono HB1.out.size))
 clear hgrow
 go_wp2
 go_ret
 exact ⟨_,rfl,own_words (ws:=[tAccount,co,tAsset,tFixed,fi]) hown' (by have:=HB1.out.size;omega),HF.out⟩
set_option maxRecDepth 100000 in
set_option maxHeartbeats 4000000 in
theorem rwords_worn (co fi:ByteArray) (w:World) (h:rightA ⟨co,0,false,false,fi,true⟩=true) (hf:neB fi=true):Calls Tryz.prog 115 #[aggF ⟨co,0,false,false,fi,true⟩] w (StrsOwned w (wordsA ⟨co,0,false,false,fi,true⟩)):=by
 have HR:=Lib.hid (rright_any ⟨co,0,false,false,fi,true⟩)
 rw [h] at HR
 have HW:Hid (wordsA ⟨co,0,false,false,fi,true⟩=[tAccount,co,tAsset,tWorn,fi]):=Lib.hid (by unfold wordsA;rw [if_pos h];simp [markW,clsW])
 rw [HW.out]
 obtain ⟨i0,hi,hz0,hz1,hz2⟩:=info_parts info_str
 have HI:=Lib.hid (And.intro hi (And.intro hz0 (And.intro hz1 hz2)))
 clear h HW hi hz0 hz1 hz2
 have HB:=Lib.hid ((Below.refl w.heap.size w).alloc (Nat.le_refl _) (.cells #[.string co,.int .i64 0,.bool false,.bool false,.string fi,.bool true] 157))
 have HX0:=Lib.hid (BoxA.new w ⟨co,0,false,false,fi,true⟩ 157)
 have HN:=Lib.hid hf
 unfold neB at hf
 go_enter Tryz.func115,Tryz.ntmps115
 go_wp2_with fail
 refine (HR.out _).mono ?_
 rintro e w1 ⟨rfl,hb1⟩
 have HB1:=Lib.hid (HB.out.trans (hb1.mono HB.out.size))
 have hlt:w.heap.size < w1.heap.size:=by have:=hb1.size;simp at this;omega
 have HX1:=Lib.hid (HX0.out.keep hb1 (by simp))
 obtain ⟨c0,c1,c2,c3,c4,c5⟩:=HX1.out.facts
 simp only at c0 c1 c2 c3 c4 c5
 clear hb1
 go_wp2
 go_region
 go_wp2_with (at_builtin;refine wpList_append_own _ rfl _ _ 66 rfl w1.heap.size 9 i0 (.string ⟨#[]⟩) 1 16 Tryz.underlying66 HI.out.1 HI.out.2.1 HI.out.2.2.1 HI.out.2.2.2 rfl (by decide) _ 3 _ rfl ((own_three2 w1 _ tAccount _ _ _).alloc _) ⟨w1.heap.size+1+1,0,none⟩ 2 2 [.string tWorn,.string fi] rfl rfl (new_cells3 w1 _ _ [.string tWorn,.string fi] _) (by intro u hu;simp at hu;rcases hu with rfl | rfl <;> rfl) (by unfold maxLen;omega) (by omega) (by simp;omega) ?_;intro v' w2 hown' hgrow _;have HF1:=Lib.hid (below_grown (below_drewN ((((Below.refl w1.heap.size w1).alloc (Nat.le_refl _) _).alloc (by simp) _).alloc (by simp;omega) _) 1) (by simp;omega) ((own_three2 w1 _ tAccount _ _ _).alloc _) hgrow);obtain ⟨k0,k1,k2,k3,k4,k5⟩:=(HX1.out.keep HF1.out hlt).facts;simp only at k0 k1 k2 k3 k4 k5)
 have HF:=Lib.hid (HB1.out.trans (HF1.out.mono HB1.out.size))
 clear hgrow
 go_wp2
 go_ret
 exact ⟨_,rfl,own_words (ws:=[tAccount,co,tAsset,tWorn,fi]) hown' (by have:=HB1.out.size;omega),HF.out⟩
theorem rwords_any (a:Acct) (w:World):Calls Tryz.prog 115 #[aggF a] w (StrsOwned w (wordsA a)):=by
 cases h:rightA a with
 | false=>exact rwords_no a w h
 | true =>
   obtain ⟨co,cl,ca,mu,fi,wo⟩:=a
   rcases marks_ways (right_parts h).2.2 with ⟨e1,e2,e3,e4⟩ | ⟨e1,e2,e3,e4,e5⟩ | ⟨e1,e2,e3,e4,e5⟩ | ⟨e1,e2,e3,e6,e4,e5⟩ | ⟨e1,e2,e3,e6,e4,e5⟩ <;> simp only at e1 e2 e3 e4 <;> subst e1 e2 e4
   ·subst e3;exact rwords_plain co cl w h
   ·simp only at e5;subst e3 e5;exact rwords_cash co w h
   ·simp only at e5;subst e3;exact rwords_both co cl w h e5
   ·simp only at e5;subst e5;exact rwords_fixed co fi w h e6
   ·simp only at e5;subst e5;exact rwords_worn co fi w h e6
end Go.Proofs.YthcpglnmhimepaaGreatDoor.Ow
namespace Go.Proofs.YthcpglnmhimepaaGreatDoor
open Go.RowKit
theorem rwords_any (a:Acct) (w:World):Calls Tryz.prog 115 #[aggF a] w (WordsTold w (wordsA a)):=by
 refine (Ow.rwords_any a w).mono ?_
 rintro e w' ⟨v,rfl,ho,hb⟩
 exact ⟨v,rfl,strs_of_own ho,hb⟩
end Go.Proofs.YthcpglnmhimepaaGreatDoor
end
