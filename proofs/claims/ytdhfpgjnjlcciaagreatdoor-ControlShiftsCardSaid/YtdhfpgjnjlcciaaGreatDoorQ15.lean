/- ChartDocWords UnitAlive UnitTold UnitDocBits -/
import Derived.Test.YtdhfpgjnjlcciaaGreatDoorQ13
import Derived.Test.YtdhfpgjnjlcciaaGreatDoorQ14
section
namespace Go.Proofs.YtdhfpgjnjlcciaaGreatDoor
open Go.RowKit
theorem jF (w:World) (o:Obj) (x y z:ByteArray) (t:TypeId):((w.alloc o).alloc (.cells #[.string x,.string y,.string z] t)).ownsRow w.heap.size t 1 (.slice (some ⟨w.heap.size+1,0,none⟩) 3 3) 3 ([x,y,z].map Value.string):=by
 have:=jm (w.alloc o) x y z t
 rw [World.size_alloc] at this
 exact zw this (by omega)
end Go.Proofs.YtdhfpgjnjlcciaaGreatDoor
namespace Go.Proofs.YtdhfpgjnjlcciaaGreatDoor.Ow
open Go.RowKit
set_option maxRecDepth 100000 in
set_option maxHeartbeats 4000000 in
theorem zcO (a:Acct) (w:World) (h:rightA a=false):Calls Tryz.prog 137 #[aggF a] w (qw w (wordsA a)):=by
 have HR:=Lib.hid (zV a)
 rw [h] at HR
 rw [xw h]
 have HB:=Lib.hid ((Below.refl w.heap.size w).alloc (Nat.le_refl _) (.cells #[.string a.code,.int .i64 a.cls,.bool a.cash,.bool a.both,.string a.fixed,.bool a.worn] 151))
 clear h
 go_enter Tryz.func137,Tryz.ntmps137
 go_wp2_with fail
 refine (HR.out _).mono ?_
 rintro e w1 ⟨rfl,hb1⟩
 have HB1:=Lib.hid hb1
 clear hb1
 go_wp2
 go_ret
 exact ⟨_,rfl,World.ownsRow_nil _ _ _ _,HB.out.trans (HB1.out.mono HB.out.size)⟩
theorem Zo (w:World) (o o2:Obj) (cs:List Value) (t:TypeId):∀ (j:Nat) u,cs[j]?=some u→(((w.alloc o).alloc o2).alloc (.cells cs.toArray t)).cell? ((⟨w.heap.size+1+1,0,none⟩:Addr).add j)=some u:=fun j u hj=>by
 have:=yZ (w.alloc o) o2 cs t j u hj
 rwa [World.size_alloc] at this
set_option maxRecDepth 100000 in
set_option maxHeartbeats 4000000 in
theorem zdF (co:ByteArray) (cl:Int) (w:World) (h:rightA ⟨co,cl,false,false,⟨#[]⟩,false⟩=true):Calls Tryz.prog 137 #[aggF ⟨co,cl,false,false,⟨#[]⟩,false⟩] w (qw w (wordsA ⟨co,cl,false,false,⟨#[]⟩,false⟩)):=by
 have HR:=Lib.hid (zV ⟨co,cl,false,false,⟨#[]⟩,false⟩)
 rw [h] at HR
 have hcl:=(qf h).2.1
 simp only at hcl
 have HW:Hid (wordsA ⟨co,cl,false,false,⟨#[]⟩,false⟩=[zb,co,clsW cl]):=Lib.hid (by unfold wordsA;rw [if_pos h];simp [markW,qT])
 rw [HW.out]
 obtain ⟨i0,hi,hz0,hz1,hz2⟩:=info_parts qG
 have HI:=Lib.hid (And.intro hi (And.intro hz0 (And.intro hz1 hz2)))
 clear h HW hi hz0 hz1 hz2
 have HB:=Lib.hid ((Below.refl w.heap.size w).alloc (Nat.le_refl _) (.cells #[.string co,.int .i64 cl,.bool false,.bool false,.string ⟨#[]⟩,.bool false] 151))
 have HX0:=Lib.hid (BoxA.new w ⟨co,cl,false,false,⟨#[]⟩,false⟩ 151)
 rcases hcl with rfl | rfl | rfl
 all_goals
  go_enter Tryz.func137,Tryz.ntmps137
  go_wp2_with fail
  refine (HR.out _).mono ?_
  rintro e w1 ⟨rfl,hb1⟩
  have HB1:=Lib.hid (HB.out.trans (hb1.mono HB.out.size))
  have hlt:w.heap.size < w1.heap.size:=by have:=hb1.size;simp at this;omega
  have HX1:=Lib.hid (HX0.out.keep hb1 (by simp))
  obtain ⟨c0,c1,c2,c3,c4,c5⟩:=HX1.out.facts
  simp only at c0 c1 c2 c3 c4 c5
  clear hb1
  go_wp2
  go_region
  go_wp2
  go_ret
  exact ⟨_,rfl,zw (jF w1 _ zb _ _ _) (by have:=HB1.out.size;omega),below_drewN ((HB1.out.alloc HB1.out.size _).alloc (by have:=HB1.out.size;simp;omega) _) 1⟩
set_option maxRecDepth 100000 in
set_option maxHeartbeats 4000000 in
theorem zdo (co:ByteArray) (w:World) (h:rightA ⟨co,0,true,false,⟨#[]⟩,false⟩=true):Calls Tryz.prog 137 #[aggF ⟨co,0,true,false,⟨#[]⟩,false⟩] w (qw w (wordsA ⟨co,0,true,false,⟨#[]⟩,false⟩)):=by
 have HR:=Lib.hid (zV ⟨co,0,true,false,⟨#[]⟩,false⟩)
 rw [h] at HR
 have HW:Hid (wordsA ⟨co,0,true,false,⟨#[]⟩,false⟩=[zb,co,tAsset,tCash]):=Lib.hid (by unfold wordsA;rw [if_pos h];simp [markW,clsW])
 rw [HW.out]
 obtain ⟨i0,hi,hz0,hz1,hz2⟩:=info_parts qG
 have HI:=Lib.hid (And.intro hi (And.intro hz0 (And.intro hz1 hz2)))
 clear h HW hi hz0 hz1 hz2
 have HB:=Lib.hid ((Below.refl w.heap.size w).alloc (Nat.le_refl _) (.cells #[.string co,.int .i64 0,.bool true,.bool false,.string ⟨#[]⟩,.bool false] 151))
 have HX0:=Lib.hid (BoxA.new w ⟨co,0,true,false,⟨#[]⟩,false⟩ 151)
 go_enter Tryz.func137,Tryz.ntmps137
 go_wp2_with fail
 refine (HR.out _).mono ?_
 rintro e w1 ⟨rfl,hb1⟩
 have HB1:=Lib.hid (HB.out.trans (hb1.mono HB.out.size))
 have hlt:w.heap.size < w1.heap.size:=by have:=hb1.size;simp at this;omega
 have HX1:=Lib.hid (HX0.out.keep hb1 (by simp))
 obtain ⟨c0,c1,c2,c3,c4,c5⟩:=HX1.out.facts
 simp only at c0 c1 c2 c3 c4 c5
 clear hb1
 go_wp2
 go_region
 go_wp2_with (at_builtin;refine wpList_append_own _ rfl _ _ 105 rfl w1.heap.size 9 i0 (.string ⟨#[]⟩) 1 16 Tryz.underlying105 HI.out.1 HI.out.2.1 HI.out.2.2.1 HI.out.2.2.2 rfl (by decide) _ 3 _ rfl ((jF w1 _ zb _ _ _).alloc _) ⟨w1.heap.size+1+1,0,none⟩ 1 1 [.string tCash] rfl rfl (Zo w1 _ _ [.string tCash] _) (by intro u hu;simp at hu;rcases hu with rfl <;> rfl) (by unfold maxLen;omega) (by omega) (by simp;omega) ?_;intro v' w2 hown' hgrow _;have HF1:=Lib.hid (below_grown (below_drewN ((((Below.refl w1.heap.size w1).alloc (Nat.le_refl _) _).alloc (by simp) _).alloc (by simp;omega) _) 1) (by simp;omega) ((jF w1 _ zb _ _ _).alloc _) hgrow);obtain ⟨k0,k1,k2,k3,k4,k5⟩:=(HX1.out.keep HF1.out hlt).facts;simp only at k0 k1 k2 k3 k4 k5)
 have HF:=Lib.hid (HB1.out.trans (HF1.out.mono HB1.out.size))
 clear hgrow
 go_wp2
 go_ret
 exact ⟨_,rfl,ya (ws:=[zb,co,tAsset,tCash]) hown' (by have:=HB1.out.size;omega),HF.out⟩
set_option maxRecDepth 100000 in
set_option maxHeartbeats 4000000 in
theorem zbV (co:ByteArray) (cl:Int) (w:World) (h:rightA ⟨co,cl,false,true,⟨#[]⟩,false⟩=true) (h2:cl≠2):Calls Tryz.prog 137 #[aggF ⟨co,cl,false,true,⟨#[]⟩,false⟩] w (qw w (wordsA ⟨co,cl,false,true,⟨#[]⟩,false⟩)):=by
 have HR:=Lib.hid (zV ⟨co,cl,false,true,⟨#[]⟩,false⟩)
 rw [h] at HR
 have hcl:=(qf h).2.1
 simp only at hcl
 have HW:Hid (wordsA ⟨co,cl,false,true,⟨#[]⟩,false⟩=[zb,co,clsW cl,qA]):=Lib.hid (by unfold wordsA;rw [if_pos h];simp [markW])
 rw [HW.out]
 obtain ⟨i0,hi,hz0,hz1,hz2⟩:=info_parts qG
 have HI:=Lib.hid (And.intro hi (And.intro hz0 (And.intro hz1 hz2)))
 clear h HW hi hz0 hz1 hz2
 have HB:=Lib.hid ((Below.refl w.heap.size w).alloc (Nat.le_refl _) (.cells #[.string co,.int .i64 cl,.bool false,.bool true,.string ⟨#[]⟩,.bool false] 151))
 have HX0:=Lib.hid (BoxA.new w ⟨co,cl,false,true,⟨#[]⟩,false⟩ 151)
 rcases (by omega:cl=0∨cl=1) with rfl | rfl
 all_goals
  go_enter Tryz.func137,Tryz.ntmps137
  go_wp2_with fail
  refine (HR.out _).mono ?_
  rintro e w1 ⟨rfl,hb1⟩
  have HB1:=Lib.hid (HB.out.trans (hb1.mono HB.out.size))
  have hlt:w.heap.size < w1.heap.size:=by have:=hb1.size;simp at this;omega
  have HX1:=Lib.hid (HX0.out.keep hb1 (by simp))
  obtain ⟨c0,c1,c2,c3,c4,c5⟩:=HX1.out.facts
  simp only at c0 c1 c2 c3 c4 c5
  clear hb1
  go_wp2
  go_region
  go_wp2_with (at_builtin;refine wpList_append_own _ rfl _ _ 105 rfl w1.heap.size 9 i0 (.string ⟨#[]⟩) 1 16 Tryz.underlying105 HI.out.1 HI.out.2.1 HI.out.2.2.1 HI.out.2.2.2 rfl (by decide) _ 3 _ rfl ((jF w1 _ zb _ _ _).alloc _) ⟨w1.heap.size+1+1,0,none⟩ 1 1 [.string qA] rfl rfl (Zo w1 _ _ [.string qA] _) (by intro u hu;simp at hu;rcases hu with rfl <;> rfl) (by unfold maxLen;omega) (by omega) (by simp;omega) ?_;intro v' w2 hown' hgrow _;have HF1:=Lib.hid (below_grown (below_drewN ((((Below.refl w1.heap.size w1).alloc (Nat.le_refl _) _).alloc (by simp) _).alloc (by simp;omega) _) 1) (by simp;omega) ((jF w1 _ zb _ _ _).alloc _) hgrow);obtain ⟨k0,k1,k2,k3,k4,k5⟩:=(HX1.out.keep HF1.out hlt).facts;simp only at k0 k1 k2 k3 k4 k5)
  have HF:=Lib.hid (HB1.out.trans (HF1.out.mono HB1.out.size))
  clear hgrow
  go_wp2
  go_ret
  exact ⟨_,rfl,ya (ws:=[zb,co,_,qA]) hown' (by have:=HB1.out.size;omega),HF.out⟩
set_option maxRecDepth 100000 in
set_option maxHeartbeats 4000000 in
theorem zb4 (co fi:ByteArray) (w:World) (h:rightA ⟨co,0,false,false,fi,false⟩=true) (hf:neB fi=true):Calls Tryz.prog 137 #[aggF ⟨co,0,false,false,fi,false⟩] w (qw w (wordsA ⟨co,0,false,false,fi,false⟩)):=by
 have HR:=Lib.hid (zV ⟨co,0,false,false,fi,false⟩)
 rw [h] at HR
 have HW:Hid (wordsA ⟨co,0,false,false,fi,false⟩=[zb,co,tAsset,tFixed,fi]):=Lib.hid (by unfold wordsA;rw [if_pos h];simp [markW,clsW,hf])
 rw [HW.out]
 obtain ⟨i0,hi,hz0,hz1,hz2⟩:=info_parts qG
 have HI:=Lib.hid (And.intro hi (And.intro hz0 (And.intro hz1 hz2)))
 clear h HW hi hz0 hz1 hz2
 have HB:=Lib.hid ((Below.refl w.heap.size w).alloc (Nat.le_refl _) (.cells #[.string co,.int .i64 0,.bool false,.bool false,.string fi,.bool false] 151))
 have HX0:=Lib.hid (BoxA.new w ⟨co,0,false,false,fi,false⟩ 151)
 have HN:=Lib.hid hf
 unfold neB at hf
 go_enter Tryz.func137,Tryz.ntmps137
 go_wp2_with fail
 refine (HR.out _).mono ?_
 rintro e w1 ⟨rfl,hb1⟩
 have HB1:=Lib.hid (HB.out.trans (hb1.mono HB.out.size))
 have hlt:w.heap.size < w1.heap.size:=by have:=hb1.size;simp at this;omega
 have HX1:=Lib.hid (HX0.out.keep hb1 (by simp))
 obtain ⟨c0,c1,c2,c3,c4,c5⟩:=HX1.out.facts
 simp only at c0 c1 c2 c3 c4 c5
 clear hb1
 go_wp2
 go_region
 go_wp2_with (at_builtin;refine wpList_append_own _ rfl _ _ 105 rfl w1.heap.size 9 i0 (.string ⟨#[]⟩) 1 16 Tryz.underlying105 HI.out.1 HI.out.2.1 HI.out.2.2.1 HI.out.2.2.2 rfl (by decide) _ 3 _ rfl ((jF w1 _ zb _ _ _).alloc _) ⟨w1.heap.size+1+1,0,none⟩ 2 2 [.string tFixed,.string fi] rfl rfl (Zo w1 _ _ [.string tFixed,.string fi] _) (by intro u hu;simp at hu;rcases hu with rfl | rfl <;> rfl) (by unfold maxLen;omega) (by omega) (by simp;omega) ?_;intro v' w2 hown' hgrow _;have HF1:=Lib.hid (below_grown (below_drewN ((((Below.refl w1.heap.size w1).alloc (Nat.le_refl _) _).alloc (by simp) _).alloc (by simp;omega) _) 1) (by simp;omega) ((jF w1 _ zb _ _ _).alloc _) hgrow);obtain ⟨k0,k1,k2,k3,k4,k5⟩:=(HX1.out.keep HF1.out hlt).facts;simp only at k0 k1 k2 k3 k4 k5)
 have HF:=Lib.hid (HB1.out.trans (HF1.out.mono HB1.out.size))
 clear hgrow
 go_wp2
 go_ret
 exact ⟨_,rfl,ya (ws:=[zb,co,tAsset,tFixed,fi]) hown' (by have:=HB1.out.size;omega),HF.out⟩
set_option maxRecDepth 100000 in
set_option maxHeartbeats 4000000 in
theorem zfc (co fi:ByteArray) (w:World) (h:rightA ⟨co,0,false,false,fi,true⟩=true) (hf:neB fi=true):Calls Tryz.prog 137 #[aggF ⟨co,0,false,false,fi,true⟩] w (qw w (wordsA ⟨co,0,false,false,fi,true⟩)):=by
 have HR:=Lib.hid (zV ⟨co,0,false,false,fi,true⟩)
 rw [h] at HR
 have HW:Hid (wordsA ⟨co,0,false,false,fi,true⟩=[zb,co,tAsset,tWorn,fi]):=Lib.hid (by unfold wordsA;rw [if_pos h];simp [markW,clsW])
 rw [HW.out]
 obtain ⟨i0,hi,hz0,hz1,hz2⟩:=info_parts qG
 have HI:=Lib.hid (And.intro hi (And.intro hz0 (And.intro hz1 hz2)))
 clear h HW hi hz0 hz1 hz2
 have HB:=Lib.hid ((Below.refl w.heap.size w).alloc (Nat.le_refl _) (.cells #[.string co,.int .i64 0,.bool false,.bool false,.string fi,.bool true] 151))
 have HX0:=Lib.hid (BoxA.new w ⟨co,0,false,false,fi,true⟩ 151)
 have HN:=Lib.hid hf
 unfold neB at hf
 go_enter Tryz.func137,Tryz.ntmps137
 go_wp2_with fail
 refine (HR.out _).mono ?_
 rintro e w1 ⟨rfl,hb1⟩
 have HB1:=Lib.hid (HB.out.trans (hb1.mono HB.out.size))
 have hlt:w.heap.size < w1.heap.size:=by have:=hb1.size;simp at this;omega
 have HX1:=Lib.hid (HX0.out.keep hb1 (by simp))
 obtain ⟨c0,c1,c2,c3,c4,c5⟩:=HX1.out.facts
 simp only at c0 c1 c2 c3 c4 c5
 clear hb1
 go_wp2
 go_region
 go_wp2_with (at_builtin;refine wpList_append_own _ rfl _ _ 105 rfl w1.heap.size 9 i0 (.string ⟨#[]⟩) 1 16 Tryz.underlying105 HI.out.1 HI.out.2.1 HI.out.2.2.1 HI.out.2.2.2 rfl (by decide) _ 3 _ rfl ((jF w1 _ zb _ _ _).alloc _) ⟨w1.heap.size+1+1,0,none⟩ 2 2 [.string tWorn,.string fi] rfl rfl (Zo w1 _ _ [.string tWorn,.string fi] _) (by intro u hu;simp at hu;rcases hu with rfl | rfl <;> rfl) (by unfold maxLen;omega) (by omega) (by simp;omega) ?_;intro v' w2 hown' hgrow _;have HF1:=Lib.hid (below_grown (below_drewN ((((Below.refl w1.heap.size w1).alloc (Nat.le_refl _) _).alloc (by simp) _).alloc (by simp;omega) _) 1) (by simp;omega) ((jF w1 _ zb _ _ _).alloc _) hgrow);obtain ⟨k0,k1,k2,k3,k4,k5⟩:=(HX1.out.keep HF1.out hlt).facts;simp only at k0 k1 k2 k3 k4 k5)
 have HF:=Lib.hid (HB1.out.trans (HF1.out.mono HB1.out.size))
 clear hgrow
 go_wp2
 go_ret
 exact ⟨_,rfl,ya (ws:=[zb,co,tAsset,tWorn,fi]) hown' (by have:=HB1.out.size;omega),HF.out⟩
theorem js (a:Acct) (w:World):Calls Tryz.prog 137 #[aggF a] w (qw w (wordsA a)):=by
 cases h:rightA a with
 | false=>exact zcO a w h
 | true =>
   obtain ⟨co,cl,ca,mu,fi,wo⟩:=a
   rcases xJ (qf h).2.2 with ⟨e1,e2,e3,e4⟩ | ⟨e1,e2,e3,e4,e5⟩ | ⟨e1,e2,e3,e4,e5⟩ | ⟨e1,e2,e3,e6,e4,e5⟩ | ⟨e1,e2,e3,e6,e4,e5⟩ <;> simp only at e1 e2 e3 e4 <;> subst e1 e2 e4
   ·subst e3;exact zdF co cl w h
   ·simp only at e5;subst e3 e5;exact zdo co w h
   ·simp only at e5;subst e3;exact zbV co cl w h e5
   ·simp only at e5;subst e5;exact zb4 co fi w h e6
   ·simp only at e5;subst e5;exact zfc co fi w h e6
end Go.Proofs.YtdhfpgjnjlcciaaGreatDoor.Ow
namespace Go.Proofs.YtdhfpgjnjlcciaaGreatDoor
open Go.RowKit
theorem js (a:Acct) (w:World):Calls Tryz.prog 137 #[aggF a] w (Vj w (wordsA a)):=by
 refine (Ow.js a w).mono ?_
 rintro e w' ⟨v,rfl,ho,hb⟩
 exact ⟨v,rfl,vu ho,hb⟩
end Go.Proofs.YtdhfpgjnjlcciaaGreatDoor
end
section
namespace Go.Proofs.YtdhfpgjnjlcciaaGreatDoor.Un
open Go.RowKit
theorem Jp (l:List UInt8):(mkB l).size=l.length:=by
 rw [←zv,qK]
end Go.Proofs.YtdhfpgjnjlcciaaGreatDoor.Un
end
section
namespace Go.Proofs.YtdhfpgjnjlcciaaGreatDoor.Un
open Go.RowKit
structure Zw (s:ByteArray) (M:Mast):Prop where
 run:runM zeroM (wordsT s)=(M,0)
 inv:Inv (wordsT s) M
 all:allE M=0
 lin:linE s.data.toList=0
end Go.Proofs.YtdhfpgjnjlcciaaGreatDoor.Un
end
section
namespace Go.Proofs.YtdhfpgjnjlcciaaGreatDoor.Un
open Go.RowKit
set_option maxRecDepth 100000 in
set_option maxHeartbeats 4000000 in
theorem zh9 (a b:ByteArray) (w:World):Calls Tryz.prog 143 #[.string a,.string b] w fun en w'=>en=.returned (.tuple #[.string (if a=emp then b else a),.int .i64 (oneE a)])∧w'=w:=by
 by_cases h:a=emp
 ·subst h
  have e:oneE emp=0:=by simp [oneE]
  rw [e,if_pos rfl]
  go_enter Tryz.func143,Tryz.ntmps143
  go_wp2
  go_ret2
  exact ⟨rfl,rfl⟩
 ·have e:oneE a=7:=by simp [oneE,h]
  rw [e,if_neg h]
  have hn:(!a.toList.isEmpty)=true:=(ji a).2 h
  go_enter Tryz.func143,Tryz.ntmps143
  go_wp2
  go_ret2
  exact ⟨rfl,rfl⟩
set_option maxRecDepth 100000 in
set_option maxHeartbeats 4000000 in
theorem vX (v:Value) (ws:List ByteArray) (w:World) (h:StrsV w v ws):Calls Tryz.prog 140 #[v] w fun en w'=>en=.returned (.bool (namesW ws))∧w'=w:=by
 obtain ⟨p,c,rfl,hcap,hm,hc⟩:=h
 obtain ⟨n,hn⟩:∃ n,ws.length=n:=⟨_,rfl⟩
 obtain ⟨R,hR⟩:∃ R,namesW ws=R:=⟨_,rfl⟩
 rw [hR]
 have HR:Hid ((ws.drop 1).all nmB=R):=Lib.hid hR
 rw [hn] at hcap hm ⊢
 have HN:=Lib.hid hn
 have HC:=Lib.hid hc
 unfold maxLen at hm
 clear hc hn hR
 go_enter Tryz.func140,Tryz.ntmps140
 go_wp2
 go_loopw [3] (fun s3 wr=>∃ i:Nat,i≤n∧s3=.int .i64 ((i:Int)+1)∧wr=w∧Hid (SoFar nmB (ws.drop 1) i)) (fun s3 _=>n+1 - (intOf s3).toNat)
 case atStart=>exact ⟨0,Nat.zero_le _,rfl,rfl,Lib.hid (SoFar.zero _ _)⟩
 case round =>
  obtain ⟨i,hi,rfl,rfl,HS⟩:=hrel
  by_cases hlt:i+1 < n
  ·obtain ⟨x,hx⟩:∃ x,ws[i+1]?=some x:=⟨_,List.getElem?_eq_getElem (by rw [HN.out];exact hlt)⟩
   obtain ⟨b,o,rfl,k1⟩:=HC.out (i+1) x hx
   have HX:Hid ((ws.drop 1)[i]?=some x):=Lib.hid (by rw [List.getElem?_drop,Nat.add_comm];exact hx)
   have hltz:(i:Int)+1 < (n:Int):=by omega
   have HNA:Hid (Calls Tryz.prog 180 #[.string x] wr fun e w'=>e=.returned (.bool (nmB x))∧wr=w'):=Lib.hid (Qq x wr)
   obtain ⟨B,hB⟩:∃ B,nmB x=B:=⟨_,rfl⟩
   rw [hB] at HNA
   have HB:=Lib.hid hB
   clear hx hB
   go_wp2_with fail
   refine HNA.out.mono ?_
   rintro en w2 ⟨rfl,rfl⟩
   cases B with
   | false =>
     have HRF:Hid (R=false):=Lib.hid (by rw [←HR.out];exact zX HX.out HB.out)
     go_wp2
     go_ret
     exact ⟨by rw [HRF.out];rfl,rfl⟩
   | true =>
     have HSN:=Lib.hid (HS.out.next HX.out HB.out)
     go_wp2
     go_roundw
     case rel=>exact ⟨i+1,by omega,by first | rfl | go_num | (congr 1;omega),by first | rfl | trivial | simp,HSN⟩
     case measure=>simp [intOf];omega
  ·have hltz:¬ (i:Int)+1 < (n:Int):=by omega
   have HRT:Hid (R=true):=Lib.hid (by rw [←HR.out];exact HS.out.done (by rw [List.length_drop,HN.out];omega))
   go_wp2
   go_ret
   exact ⟨by rw [HRT.out];rfl,rfl⟩
def specA (a:Acct) (k:Int):Bool:=decide (a.cls=k) && !a.cash && !a.both && !neB a.fixed
set_option maxRecDepth 100000 in
set_option maxHeartbeats 4000000 in
theorem VR (a:Acct) (k:Int) (w:World):Calls Tryz.prog 102 #[aggF a,.int .i64 k] w fun en w'=>en=.returned (.bool (specA a k))∧Below w.heap.size w w':=by
 obtain ⟨code,cls,cash,both,fixed,worn⟩:=a
 have HB:=Lib.hid ((Below.refl w.heap.size w).alloc (Nat.le_refl _) (.cells #[.string code,.int .i64 cls,.bool cash,.bool both,.string fixed,.bool worn] 151))
 obtain ⟨q0,q1,q2,q3,q4,q5⟩:=(BoxA.new w ⟨code,cls,cash,both,fixed,worn⟩ 151).facts
 dsimp only at q0 q1 q2 q3 q4 q5
 obtain ⟨R,hR⟩:∃ R,specA ⟨code,cls,cash,both,fixed,worn⟩ k=R:=⟨_,rfl⟩
 rw [hR]
 have HR:Hid ((decide (cls=k) && !cash && !both && !neB fixed)=R):=Lib.hid hR
 clear hR
 by_cases h1:cls=k
 ·have h1z:(cls==k)=true:=by simpa using h1
  have HR1:Hid ((!cash && !both && !neB fixed)=R):=Lib.hid (by rw [←HR.out,decide_eq_true h1];rfl)
  clear h1
  cases cash with
  | true =>
    have HRF:Hid (R=false):=Lib.hid (by rw [←HR1.out];rfl)
    go_enter Tryz.func102,Tryz.ntmps102
    go_wp2
    go_ret
    exact ⟨by rw [HRF.out];rfl,HB.out⟩
  | false =>
    cases both with
    | true =>
      have HRF:Hid (R=false):=Lib.hid (by rw [←HR1.out];rfl)
      go_enter Tryz.func102,Tryz.ntmps102
      go_wp2
      go_ret
      exact ⟨by rw [HRF.out];rfl,HB.out⟩
    | false =>
      have HR2:Hid ((!neB fixed)=R):=Lib.hid (by rw [←HR1.out];rfl)
      by_cases hf:fixed=emp
      ·subst hf
       have HRT:Hid (R=true):=Lib.hid (by rw [←HR2.out,qT];rfl)
       go_enter Tryz.func102,Tryz.ntmps102
       go_wp2
       go_ret
       exact ⟨by rw [HRT.out];rfl,HB.out⟩
      ·have hne:(!fixed.toList.isEmpty)=true:=(ji fixed).2 hf
       have HRF:Hid (R=false):=Lib.hid (by rw [←HR2.out];unfold neB;rw [hne];rfl)
       have hne2:fixed.toList.isEmpty=false:=by simpa using hne
       go_enter Tryz.func102,Tryz.ntmps102
       go_wp2
       go_ret
       exact ⟨by rw [HRF.out];rfl,HB.out⟩
 ·have h1z:(cls==k)=false:=by simpa using h1
  have HRF:Hid (R=false):=Lib.hid (by rw [←HR.out,decide_eq_false h1];rfl)
  clear h1
  go_enter Tryz.func102,Tryz.ntmps102
  go_wp2
  go_ret
  exact ⟨by rw [HRF.out];rfl,HB.out⟩
end Go.Proofs.YtdhfpgjnjlcciaaGreatDoor.Un
end
