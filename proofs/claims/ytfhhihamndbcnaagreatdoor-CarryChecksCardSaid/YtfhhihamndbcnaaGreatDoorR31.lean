/- UnitFormed UnitKeyOf -/
import Derived.Test.YtfhhihamndbcnaaGreatDoorR19
import Derived.Test.YtfhhihamndbcnaaGreatDoorR23
import Derived.Test.YtfhhihamndbcnaaGreatDoorR26
section
namespace Go.Proofs.YtfhhihamndbcnaaGreatDoor.Un
open Go.RowKit
theorem qL (s t:ByteArray) (l:List UInt8) (h:t.data.toList=l):(s.toList==l)=decide (s=t):=by
 have e:t.toList=l:=by rw [ByteArray.toList_eq,h]
 rw [←e,Bool.eq_iff_iff,decide_eq_true_eq]
 exact ⟨fun h=>(Lib.bytes_beq_iff s t).1 h,fun h=>(Lib.bytes_beq_iff s t).2 h⟩
theorem qGroup (s:ByteArray):(s.toList==[103,114,111,117,112])=decide (s=tGroup):=qL s tGroup _ rfl
theorem qReserve (s:ByteArray):(s.toList==[114,101,115,101,114,118,101])=decide (s=tReserve):=qL s tReserve _ rfl
theorem qDiffer (s:ByteArray):(s.toList==[100,105,102,102,101,114])=decide (s=tDiffer):=qL s tDiffer _ rfl
theorem qMinor (s:ByteArray):(s.toList==[109,105,110,111,114])=decide (s=tMinor):=qL s tMinor _ rfl
theorem qStake (s:ByteArray):(s.toList==[115,116,97,107,101])=decide (s=tStake):=qL s tStake _ rfl
theorem qEntity (s:ByteArray):(s.toList==[101,110,116,105,116,121])=decide (s=tEntity):=qL s tEntity _ rfl
theorem qMap (s:ByteArray):(s.toList==[109,97,112])=decide (s=tMap):=qL s tMap _ rfl
theorem qAccount (s:ByteArray):(s.toList==[97,99,99,111,117,110,116])=decide (s=tAccount):=qL s tAccount _ rfl
theorem qFlow (s:ByteArray):(s.toList==[102,108,111,119])=decide (s=Fl.tFlow):=qL s Fl.tFlow _ rfl
theorem lenW_none {h:ByteArray} (h1:h≠tGroup) (h2:h≠tReserve) (h3:h≠tDiffer) (h4:h≠tMinor) (h5:h≠tStake) (h6:h≠tEntity) (h7:h≠tMap):lenW h=0:=by
 unfold lenW
 rw [if_neg (by simp [h1,h2,h3,h4,h5]),if_neg h6,if_neg h7]
theorem lenW_2 {h:ByteArray} (h1:h=tGroup∨h=tReserve∨h=tDiffer∨h=tMinor∨h=tStake):lenW h=2:=by unfold lenW;rw [if_pos h1]
theorem lenW_3 {h:ByteArray} (h1:h=tEntity):lenW h=3:=by subst h1;decide
theorem lenW_4 {h:ByteArray} (h1:h=tMap):lenW h=4:=by subst h1;decide
set_option maxRecDepth 100000 in
set_option maxHeartbeats 2000000 in
theorem length_any (s:ByteArray) (w:World) :
 Calls Tryz.prog 114 #[.string s] w fun en w'=>en=.returned (.int .i64 (lenW s))∧w'=w:=by
 have g1:=qGroup s
 have g2:=qReserve s
 have g3:=qDiffer s
 have g4:=qMinor s
 have g5:=qStake s
 have g6:=qEntity s
 have g7:=qMap s
 have n2:=lenW_2 (h:=s)
 have n3:=lenW_3 (h:=s)
 have n4:=lenW_4 (h:=s)
 have n0:=lenW_none (h:=s)
 obtain ⟨N,hN⟩:∃ N,lenW s=N:=⟨_,rfl⟩
 rw [hN] at n2 n3 n4 n0 ⊢
 clear hN
 by_cases h1:s=tGroup
 ·have HN:=Lib.hid (n2 (by simp [h1]))
  rw [decide_eq_true h1] at g1
  clear h1 n2 n3 n4 n0
  go_enter Tryz.func114,Tryz.ntmps114
  go_wp2
  go_ret
  exact ⟨by rw [HN.out];rfl,rfl⟩
 rw [decide_eq_false h1] at g1
 by_cases h2:s=tReserve
 ·have HN:=Lib.hid (n2 (by simp [h2]))
  rw [decide_eq_true h2] at g2
  clear h2 n2 n3 n4 n0 h1
  go_enter Tryz.func114,Tryz.ntmps114
  go_wp2
  go_ret
  exact ⟨by rw [HN.out];rfl,rfl⟩
 rw [decide_eq_false h2] at g2
 by_cases h3:s=tDiffer
 ·have HN:=Lib.hid (n2 (by simp [h3]))
  rw [decide_eq_true h3] at g3
  clear h3 n2 n3 n4 n0 h1 h2
  go_enter Tryz.func114,Tryz.ntmps114
  go_wp2
  go_ret
  exact ⟨by rw [HN.out];rfl,rfl⟩
 rw [decide_eq_false h3] at g3
 by_cases h4:s=tMinor
 ·have HN:=Lib.hid (n2 (by simp [h4]))
  rw [decide_eq_true h4] at g4
  clear h4 n2 n3 n4 n0 h1 h2 h3
  go_enter Tryz.func114,Tryz.ntmps114
  go_wp2
  go_ret
  exact ⟨by rw [HN.out];rfl,rfl⟩
 rw [decide_eq_false h4] at g4
 by_cases h5:s=tStake
 ·have HN:=Lib.hid (n2 (by simp [h5]))
  rw [decide_eq_true h5] at g5
  clear h5 n2 n3 n4 n0 h1 h2 h3 h4
  go_enter Tryz.func114,Tryz.ntmps114
  go_wp2
  go_ret
  exact ⟨by rw [HN.out];rfl,rfl⟩
 rw [decide_eq_false h5] at g5
 by_cases h6:s=tEntity
 ·have HN:=Lib.hid (n3 h6)
  rw [decide_eq_true h6] at g6
  clear h6 n2 n3 n4 n0 h1 h2 h3 h4 h5
  go_enter Tryz.func114,Tryz.ntmps114
  go_wp2
  go_ret
  exact ⟨by rw [HN.out];rfl,rfl⟩
 rw [decide_eq_false h6] at g6
 by_cases h7:s=tMap
 ·have HN:=Lib.hid (n4 h7)
  rw [decide_eq_true h7] at g7
  clear h7 n2 n3 n4 n0 h1 h2 h3 h4 h5 h6
  go_enter Tryz.func114,Tryz.ntmps114
  go_wp2
  go_ret
  exact ⟨by rw [HN.out];rfl,rfl⟩
 rw [decide_eq_false h7] at g7
 have HN:=Lib.hid (n0 h1 h2 h3 h4 h5 h6 h7)
 clear h1 h2 h3 h4 h5 h6 h7 n2 n3 n4 n0
 go_enter Tryz.func114,Tryz.ntmps114
 go_wp2
 go_ret
 exact ⟨by rw [HN.out];rfl,rfl⟩
theorem formed_parts {ws:List ByteArray} (h0:0 < ws.length):formedW ws=(decide ((ws.length:Int)=lenW (wd ws 0)) && (ws.drop 1).all nmB):=by
 unfold formedW namesW
 rw [decide_eq_true h0,Bool.true_and]
def SoFarS {α:Type} (p:α→Bool) (L:List α) (i:Nat):Prop:=∀ (j:Nat) (x:α),j < i→L[j]?=some x→p x=true
theorem strs_u:Tryz.prog.underlying 102=some (.slice (Tryz.prog.elem 102)):=by kernel_rfl
theorem strs_s (w:World):(sizeOf (Tryz.prog.elem 102)).run Tryz.prog w=.ok 1 w:=by kernel_rfl
theorem wd_of {ws:List ByteArray} {i:Nat} {x:ByteArray} (h:ws[i]?=some x):wd ws i=x:=by unfold wd;rw [List.getD_eq_getElem?_getD,h];rfl
set_option maxRecDepth 100000 in
set_option maxHeartbeats 2000000 in
theorem formed_any (v:Value) (ws:List ByteArray) (w:World) (h:StrsV w v ws) (h0:0 < ws.length) :
 Calls Tryz.prog 78 #[v] w fun en w'=>en=.returned (.bool (formedW ws))∧w'=w:=by
 have HV:=Lib.hid h
 obtain ⟨p,c,rfl,hcap,hm,hc⟩:=h
 obtain ⟨x0,hx0⟩:∃ x,ws[0]?=some x:=⟨_,List.getElem?_eq_getElem h0⟩
 obtain ⟨b,o,rfl,k0⟩:=hc 0 x0 hx0
 rw [Nat.add_zero] at k0
 have hfp:=formed_parts h0
 rw [wd_of hx0] at hfp
 obtain ⟨n,hn⟩:∃ n,ws.length=n:=⟨_,rfl⟩
 rw [hn] at hfp HV hcap hm h0 ⊢
 unfold maxLen at hm
 obtain ⟨N,hN⟩:∃ N,lenW x0=N:=⟨_,rfl⟩
 have HLA:=Lib.hid (fun W=>length_any x0 W)
 simp only [hN] at HLA
 rw [hN] at hfp
 obtain ⟨r,hr⟩:∃ r,formedW ws=r:=⟨_,rfl⟩
 rw [hr] at hfp ⊢
 have HFP:=Lib.hid hfp
 have HN:=Lib.hid hn
 clear hfp hr hN hx0 hc hn
 by_cases hl:(n:Int)=N
 ·have HFP2:Hid (r=(ws.drop 1).all nmB):=Lib.hid (by rw [HFP.out,decide_eq_true hl,Bool.true_and])
  obtain ⟨v1,hv1,hs1⟩:=strs_tail strs_u strs_s HV.out (k:=1) (by omega)
  obtain ⟨p1,c1,rfl,hcap1,hm1,hc1⟩:=hs1
  have HC1:=Lib.hid hc1
  obtain ⟨n1,hn1⟩:∃ n1,(ws.drop 1).length=n1:=⟨_,rfl⟩
  rw [hn1] at hv1 hcap1 hm1
  have HN1:=Lib.hid hn1
  unfold maxLen at hm1
  have HVE:=Lib.hid hv1
  clear hc1 hn1 hv1
  subst hl
  go_enter Tryz.func78,Tryz.ntmps78
  go_wp2_with fail
  refine (HLA.out _).mono ?_
  rintro en w1 ⟨rfl,rfl⟩
  have hv1:=HVE.out
  simp only [Int.natCast_one] at hv1
  go_wp2
  clear hv1
  go_loop [15] (fun s15=>∃ i:Nat,i≤n1∧s15=.int .i64 (i:Int)∧Hid (SoFarS nmB (ws.drop 1) i)) (fun s15=>n1 - (intOf s15).toNat)
  case atStart=>exact ⟨0,Nat.zero_le _,rfl,Lib.hid (fun j x hj=>absurd hj (Nat.not_lt_zero _))⟩
  case round =>
   obtain ⟨i,hi,rfl,HSF⟩:=hrel
   by_cases hlt:i < n1
   ·obtain ⟨x,hx⟩:∃ x,(ws.drop 1)[i]?=some x:=⟨_,List.getElem?_eq_getElem (by rw [HN1.out];exact hlt)⟩
    obtain ⟨b2,o2,rfl,q0⟩:=HC1.out i x hx
    have HX:=Lib.hid hx
    obtain ⟨bb,hbb⟩:∃ bb,nmB x=bb:=⟨_,rfl⟩
    have HNA:=Lib.hid (fun W=>name_at x W)
    have hnm:nameL x.data.toList=bb:=hbb
    simp only [hnm] at HNA
    have HBB:=Lib.hid hbb
    clear hx hnm hbb
    cases bb with
    | false =>
      have HRF:Hid (r=false):=Lib.hid (by
       rw [HFP2.out,←Bool.not_eq_true,List.all_eq_true]
       intro h'
       have:=h' x (List.mem_of_getElem? HX.out)
       rw [HBB.out] at this;cases this)
      go_wp2_with fail
      refine (HNA.out _).mono ?_
      rintro en w1 ⟨rfl,rfl⟩
      go_wp2
      go_ret
      exact ⟨by rw [HRF.out];rfl,rfl⟩
    | true =>
      have HSN:Hid (SoFarS nmB (ws.drop 1) (i+1)):=Lib.hid (fun j y hj hy=>by
       rcases Nat.lt_or_ge j i with h' | h'
       ·exact HSF.out j y h' hy
       ·obtain rfl:j=i:=by omega
        rw [HX.out] at hy;cases hy;exact HBB.out)
      go_wp2_with fail
      refine (HNA.out _).mono ?_
      rintro en w1 ⟨rfl,rfl⟩
      go_wp2
      go_round
      case rel=>exact ⟨i+1,by omega,by go_num,HSN⟩
      case measure=>simp [intOf];omega
   ·have HRT:Hid (r=true):=Lib.hid (by
     rw [HFP2.out,List.all_eq_true]
     intro x hx
     obtain ⟨j,hj,ej⟩:=List.getElem_of_mem hx
     exact HSF.out j x (by rw [HN1.out] at hj;omega) (by rw [List.getElem?_eq_getElem hj,ej]))
    go_wp2
    go_ret
    exact ⟨by rw [HRT.out];rfl,rfl⟩
 ·have HRF:Hid (r=false):=Lib.hid (by rw [HFP.out,decide_eq_false hl,Bool.false_and])
  go_enter Tryz.func78,Tryz.ntmps78
  go_wp2_with fail
  refine (HLA.out _).mono ?_
  rintro en w1 ⟨rfl,rfl⟩
  go_wp2
  go_ret
  exact ⟨by rw [HRF.out];rfl,rfl⟩
end Go.Proofs.YtfhhihamndbcnaaGreatDoor.Un
end
section
namespace Go.Proofs.YtfhhihamndbcnaaGreatDoor.Un
open Go.RowKit
abbrev encK:Enc (ByteArray × ByteArray × ByteArray):=⟨fun e=>[.string e.1,.string e.2.1,.string e.2.2],3,fun _=>rfl,by decide,fun _ v hv=>by simp at hv;rcases hv with rfl | rfl | rfl <;> rfl⟩
theorem key3 {w:World} {b:Nat} {t:TypeId} {x y z:ByteArray} (h:BoxE encK w b t (x,y,z)):w.cell? ⟨b,0,none⟩=some (.string x)∧w.cell? ⟨b,1,none⟩=some (.string y)∧w.cell? ⟨b,2,none⟩=some (.string z):=⟨h.at0 0 _ rfl,h.at0 1 _ rfl,h.at0 2 _ rfl⟩
set_option maxRecDepth 100000 in
set_option maxHeartbeats 2000000 in
theorem keyOf_any (v:Value) (ws:List ByteArray) (w:World) (h:StrsV w v ws) (hf:formedW ws=true) :
 Calls Tryz.prog 79 #[v] w fun en w'=>en=.returned (aggK (wd ws 0) (keyB ws) (keyC ws))∧Below w.heap.size w w':=by
 have HB0:=Lib.hid ((Below.refl w.heap.size w).alloc (Nat.le_refl _) (.cells #[.string emp,.string emp,.string emp] 167))
 have HX0:=Lib.hid (BoxE.new encK w (emp,emp,emp) 167)
 have h1:=h.keep HB0.out
 obtain ⟨p,c,rfl,hcap,hm,hc⟩:=h1
 unfold maxLen at hm
 have fin:∀ (w1:World) (a b d:ByteArray),BoxE encK w1 w.heap.size 167 (a,b,d)→(w.alloc (.cells #[.string emp,.string emp,.string emp] 167)).grownBy w1 (some w.heap.size)→Below w.heap.size w w1:=fun w1 a b d _ hg=>HB0.out.grown hg HB0.out.size (fun k hk=>by cases hk;exact Nat.le_refl _)
 have HF:=Lib.hid fin
 clear fin
 rcases formed_ways hf with ⟨h0,a,b,rfl,ha,hb⟩ | ⟨h0,a,b,d,rfl,ha,hb,hd⟩ | ⟨h0,a,h2,ha⟩
 ·obtain ⟨g,o,rfl,k0⟩:=hc 0 tEntity rfl
  obtain ⟨g',o',e1,k1⟩:=hc 1 a rfl
  cases e1
  rw [Nat.add_zero] at k0
  have g1:(tEntity.toList==[101,110,116,105,116,121])=true:=by rw [qEntity];decide
  have HK:Hid (aggK (wd [tEntity,a,b] 0) (keyB [tEntity,a,b]) (keyC [tEntity,a,b])=aggK ⟨#[101,110,116,105,116,121]⟩ a emp):=Lib.hid rfl
  rw [HK.out]
  clear hc h0 hf h
  go_enter Tryz.func79,Tryz.ntmps79
  go_wp2_with (refine wpList_store_el (E:=encK) rfl 167 (.tmp 2) (.tmp 11) rfl w.heap.size (emp,emp,emp) (⟨#[101,110,116,105,116,121]⟩,a,emp) 167 rfl rfl HX0.out (by kernel_rfl) ?_;intro w2 hb2 hg2)
  have HF2:=Lib.hid (HF.out _ _ _ _ hb2 hg2)
  obtain ⟨d0,d1,d2⟩:=key3 hb2
  clear hb2 hg2
  exact bodyPost_ret (v:=aggK ⟨#[101,110,116,105,116,121]⟩ a emp) (by simp [results,Tryz.results79,go_sem,d0,d1,d2]) rfl ⟨rfl,HF2.out⟩
 ·obtain ⟨g,o,rfl,k0⟩:=hc 0 tMap rfl
  obtain ⟨g',o',e1,k1⟩:=hc 1 a rfl
  cases e1
  obtain ⟨g',o',e1,k2⟩:=hc 2 b rfl
  cases e1
  rw [Nat.add_zero] at k0
  have g1:(tMap.toList==[101,110,116,105,116,121])=false:=by rw [qEntity];decide
  have g2:(tMap.toList==[109,97,112])=true:=by rw [qMap];decide
  have HK:Hid (aggK (wd [tMap,a,b,d] 0) (keyB [tMap,a,b,d]) (keyC [tMap,a,b,d])=aggK ⟨#[109,97,112]⟩ a b):=Lib.hid rfl
  rw [HK.out]
  clear hc h0 hf h
  obtain ⟨W,hW⟩:∃ W,w.alloc (.cells #[.string emp,.string emp,.string emp] 167)=W:=⟨_,rfl⟩
  rw [hW] at HB0 HX0 HF k0 k1 k2
  go_enter Tryz.func79,Tryz.ntmps79
  go_wp2_with fail
  clear hW
  obtain ⟨W2,hW2⟩:∃ W2,W.drew=W2:=⟨_,rfl⟩
  have j1:W2.cell? ⟨g,o+1,none⟩=some (.string a):=by rw [←hW2];exact k1
  have j2:W2.cell? ⟨g,o+2,none⟩=some (.string b):=by rw [←hW2];exact k2
  have HX2:Hid (BoxE encK W2 w.heap.size 167 (emp,emp,emp)):=Lib.hid (by rw [←hW2];exact HX0.out)
  have HG2:Hid (W.grownBy W2 (some w.heap.size)):=Lib.hid (by rw [←hW2];exact ⟨rfl,rfl,rfl,Nat.le_refl _,fun _ _ _=>rfl⟩)
  refine wp_region_still_tail 7 (by kernel_rfl) (by kernel_rfl) ?_
  simp only [List.take_succ_cons,List.take_zero,List.drop_succ_cons,List.drop_zero]
  rw [show ({ heap:=W.heap,tape:=W.tape,drawn:=W.drawn+1,os:=W.os,output:=W.output }:World)=W2 from hW2]
  clear hW2 k0 k1 k2
  repeat still_step
  refine wpStill_nil ?_
  clear j1 j2
  go_wp2_with (refine wpList_store_el (E:=encK) rfl 167 (.tmp 2) (.tmp 20) rfl w.heap.size (emp,emp,emp) (⟨#[109,97,112]⟩,a,b) 167 rfl rfl HX2.out (by kernel_rfl) ?_;intro w2 hb2 hg2)
  have HF2:=Lib.hid (HF.out _ _ _ _ hb2 (HG2.out.trans hg2))
  obtain ⟨d0,d1,d2⟩:=key3 hb2
  clear hb2 hg2
  exact bodyPost_ret (v:=aggK ⟨#[109,97,112]⟩ a b) (by simp [results,Tryz.results79,go_sem,d0,d1,d2]) rfl ⟨rfl,HF2.out⟩
 ·obtain ⟨x,hx⟩:∃ x,wd ws 0=x:=⟨_,rfl⟩
  rw [hx] at h0 h2
  subst h2
  obtain ⟨g,o,rfl,k0⟩:=hc 0 x rfl
  rw [Nat.add_zero] at k0
  have n1:x≠tEntity:=by rcases h0 with h | h | h | h | h <;> rw [h] <;> decide
  have n2:x≠tMap:=by rcases h0 with h | h | h | h | h <;> rw [h] <;> decide
  have g1:(x.toList==[101,110,116,105,116,121])=false:=by rw [qEntity];exact decide_eq_false n1
  have g2:(x.toList==[109,97,112])=false:=by rw [qMap];exact decide_eq_false n2
  have HK:Hid (aggK (wd [x,a] 0) (keyB [x,a]) (keyC [x,a])=aggK x emp emp):=Lib.hid (by
   have e0:wd [x,a] 0=x:=rfl
   unfold keyB keyC
   rw [e0,if_neg n1,if_neg n2,if_neg n1,if_neg n2])
  rw [HK.out]
  clear hc h0 hf h n1 n2 hx
  go_enter Tryz.func79,Tryz.ntmps79
  go_wp2_with (refine wpList_store_el (E:=encK) rfl 167 (.tmp 2) (.tmp 24) rfl w.heap.size (emp,emp,emp) (x,emp,emp) 167 rfl rfl HX0.out (by kernel_rfl) ?_;intro w2 hb2 hg2)
  have HF2:=Lib.hid (HF.out _ _ _ _ hb2 hg2)
  obtain ⟨d0,d1,d2⟩:=key3 hb2
  clear hb2 hg2
  exact bodyPost_ret (v:=aggK x emp emp) (by simp [results,Tryz.results79,go_sem,d0,d1,d2]) rfl ⟨rfl,HF2.out⟩
end Go.Proofs.YtfhhihamndbcnaaGreatDoor.Un
end
