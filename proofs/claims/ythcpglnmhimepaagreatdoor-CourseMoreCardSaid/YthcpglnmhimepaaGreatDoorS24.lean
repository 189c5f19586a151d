/- UnitFormed -/
import Derived.Test.YthcpglnmhimepaaGreatDoorS17
import Derived.Test.YthcpglnmhimepaaGreatDoorS20
namespace Go.Proofs.YthcpglnmhimepaaGreatDoor.Un
open Go.RowKit
theorem qL (s t:ByteArray) (l:List UInt8) (h:t.data.toList=l):(s.toList==l)=decide (s=t):=by
 have e:t.toList=l:=by rw [ByteArray.toList_eq,h]
 rw [←e,Bool.eq_iff_iff,decide_eq_true_eq]
 exact ⟨fun h=>(Lib.bytes_beq_iff s t).1 h,fun h=>(Lib.bytes_beq_iff s t).2 h⟩
theorem qGroup (s:ByteArray):(s.toList==[103,114,111,117,112])=decide (s=tGroup):=qL s tGroup _ rfl
theorem qReserve (s:ByteArray):(s.toList==[114,101,115,101,114,118,101])=decide (s=tReserve):=qL s tReserve _ rfl
theorem qDiffer (s:ByteArray):(s.toList==[100,105,102,102,101,114])=decide (s=tDiffer):=qL s tDiffer _ rfl
theorem qMinor (s:ByteArray):(s.toList==[109,105,110,111,114])=decide (s=tMinor):=qL s tMinor _ rfl
theorem qStake (s:ByteArray):(s.toList==[115,116,97,107,101])=decide (s=tStake):=qL s tStake _ rfl
theorem qEntity (s:ByteArray):(s.toList==[101,110,116,105,116,121])=decide (s=tEntity):=qL s tEntity _ rfl
theorem qMap (s:ByteArray):(s.toList==[109,97,112])=decide (s=tMap):=qL s tMap _ rfl
theorem qAccount (s:ByteArray):(s.toList==[97,99,99,111,117,110,116])=decide (s=tAccount):=qL s tAccount _ rfl
theorem qFlow (s:ByteArray):(s.toList==[102,108,111,119])=decide (s=Fl.tFlow):=qL s Fl.tFlow _ rfl
theorem lenW_none {h:ByteArray} (h1:h≠tGroup) (h2:h≠tReserve) (h3:h≠tDiffer) (h4:h≠tMinor) (h5:h≠tStake) (h6:h≠tEntity) (h7:h≠tMap):lenW h=0:=by
 unfold lenW
 rw [if_neg (by simp [h1,h2,h3,h4,h5]),if_neg h6,if_neg h7]
theorem lenW_2 {h:ByteArray} (h1:h=tGroup∨h=tReserve∨h=tDiffer∨h=tMinor∨h=tStake):lenW h=2:=by unfold lenW;rw [if_pos h1]
theorem lenW_3 {h:ByteArray} (h1:h=tEntity):lenW h=3:=by subst h1;decide
theorem lenW_4 {h:ByteArray} (h1:h=tMap):lenW h=4:=by subst h1;decide
set_option maxRecDepth 100000 in
set_option maxHeartbeats 2000000 in
theorem length_any (s:ByteArray) (w:World) :
 Calls Tryz.prog 105 #[.string s] w fun en w'=>en=.returned (.int .i64 (lenW s))∧w'=w:=by
 have g1:=qGroup s
 have g2:=qReserve s
 have g3:=qDiffer s
 have g4:=qMinor s
 have g5:=qStake s
 have g6:=qEntity s
 have g7:=qMap s
 have n2:=lenW_2 (h:=s)
 have n3:=lenW_3 (h:=s)
 have n4:=lenW_4 (h:=s)
 have n0:=lenW_none (h:=s)
 obtain ⟨N,hN⟩:∃ N,lenW s=N:=⟨_,rfl⟩
 rw [hN] at n2 n3 n4 n0 ⊢
 clear hN
 by_cases h1:s=tGroup
 ·have HN:=Lib.hid (n2 (by simp [h1]))
  rw [decide_eq_true h1] at g1
  clear h1 n2 n3 n4 n0
  go_enter Tryz.func105,Tryz.ntmps105
  go_wp2
  go_ret
  exact ⟨by rw [HN.out];rfl,rfl⟩
 rw [decide_eq_false h1] at g1
 by_cases h2:s=tReserve
 ·have HN:=Lib.hid (n2 (by simp [h2]))
  rw [decide_eq_true h2] at g2
  clear h2 n2 n3 n4 n0 h1
  go_enter Tryz.func105,Tryz.ntmps105
  go_wp2
  go_ret
  exact ⟨by rw [HN.out];rfl,rfl⟩
 rw [decide_eq_false h2] at g2
 by_cases h3:s=tDiffer
 ·have HN:=Lib.hid (n2 (by simp [h3]))
  rw [decide_eq_true h3] at g3
  clear h3 n2 n3 n4 n0 h1 h2
  go_enter Tryz.func105,Tryz.ntmps105
  go_wp2
  go_ret
  exact ⟨by rw [HN.out];rfl,rfl⟩
 rw [decide_eq_false h3] at g3
 by_cases h4:s=tMinor
 ·have HN:=Lib.hid (n2 (by simp [h4]))
  rw [decide_eq_true h4] at g4
  clear h4 n2 n3 n4 n0 h1 h2 h3
  go_enter Tryz.func105,Tryz.ntmps105
  go_wp2
  go_ret
  exact ⟨by rw [HN.out];rfl,rfl⟩
 rw [decide_eq_false h4] at g4
 by_cases h5:s=tStake
 ·have HN:=Lib.hid (n2 (by simp [h5]))
  rw [decide_eq_true h5] at g5
  clear h5 n2 n3 n4 n0 h1 h2 h3 h4
  go_enter Tryz.func105,Tryz.ntmps105
  go_wp2
  go_ret
  exact ⟨by rw [HN.out];rfl,rfl⟩
 rw [decide_eq_false h5] at g5
 by_cases h6:s=tEntity
 ·have HN:=Lib.hid (n3 h6)
  rw [decide_eq_true h6] at g6
  clear h6 n2 n3 n4 n0 h1 h2 h3 h4 h5
  go_enter Tryz.func105,Tryz.ntmps105
  go_wp2
  go_ret
  exact ⟨by rw [HN.out];rfl,rfl⟩
 rw [decide_eq_false h6] at g6
 by_cases h7:s=tMap
 ·have HN:=Lib.hid (n4 h7)
  rw [decide_eq_true h7] at g7
  clear h7 n2 n3 n4 n0 h1 h2 h3 h4 h5 h6
  go_enter Tryz.func105,Tryz.ntmps105
  go_wp2
  go_ret
  exact ⟨by rw [HN.out];rfl,rfl⟩
 rw [decide_eq_false h7] at g7
 have HN:=Lib.hid (n0 h1 h2 h3 h4 h5 h6 h7)
 clear h1 h2 h3 h4 h5 h6 h7 n2 n3 n4 n0
 go_enter Tryz.func105,Tryz.ntmps105
 go_wp2
 go_ret
 exact ⟨by rw [HN.out];rfl,rfl⟩
theorem formed_parts {ws:List ByteArray} (h0:0 < ws.length):formedW ws=(decide ((ws.length:Int)=lenW (wd ws 0)) && (ws.drop 1).all nmB):=by
 unfold formedW namesW
 rw [decide_eq_true h0,Bool.true_and]
def SoFarS {α:Type} (p:α→Bool) (L:List α) (i:Nat):Prop:=∀ (j:Nat) (x:α),j < i→L[j]?=some x→p x=true
theorem strs_u:Tryz.prog.underlying 66=some (.slice (Tryz.prog.elem 66)):=by kernel_rfl
theorem strs_s (w:World):(sizeOf (Tryz.prog.elem 66)).run Tryz.prog w=.ok 1 w:=by kernel_rfl
theorem wd_of {ws:List ByteArray} {i:Nat} {x:ByteArray} (h:ws[i]?=some x):wd ws i=x:=by unfold wd;rw [List.getD_eq_getElem?_getD,h];rfl
set_option maxRecDepth 100000 in
set_option maxHeartbeats 2000000 in
theorem formed_any (v:Value) (ws:List ByteArray) (w:World) (h:StrsV w v ws) (h0:0 < ws.length) :
 Calls Tryz.prog 67 #[v] w fun en w'=>en=.returned (.bool (formedW ws))∧w'=w:=by
 have HV:=Lib.hid h
 obtain ⟨p,c,rfl,hcap,hm,hc⟩:=h
 obtain ⟨x0,hx0⟩:∃ x,ws[0]?=some x:=⟨_,List.getElem?_eq_getElem h0⟩
 obtain ⟨b,o,rfl,k0⟩:=hc 0 x0 hx0
 rw [Nat.add_zero] at k0
 have hfp:=formed_parts h0
 rw [wd_of hx0] at hfp
 obtain ⟨n,hn⟩:∃ n,ws.length=n:=⟨_,rfl⟩
 rw [hn] at hfp HV hcap hm h0 ⊢
 unfold maxLen at hm
 obtain ⟨N,hN⟩:∃ N,lenW x0=N:=⟨_,rfl⟩
 have HLA:=Lib.hid (fun W=>length_any x0 W)
 simp only [hN] at HLA
 rw [hN] at hfp
 obtain ⟨r,hr⟩:∃ r,formedW ws=r:=⟨_,rfl⟩
 rw [hr] at hfp ⊢
 have HFP:=Lib.hid hfp
 have HN:=Lib.hid hn
 clear hfp hr hN hx0 hc hn
 by_cases hl:(n:Int)=N
 ·have HFP2:Hid (r=(ws.drop 1).all nmB):=Lib.hid (by rw [HFP.out,decide_eq_true hl,Bool.true_and])
  obtain ⟨v1,hv1,hs1⟩:=strs_tail strs_u strs_s HV.out (k:=1) (by omega)
  obtain ⟨p1,c1,rfl,hcap1,hm1,hc1⟩:=hs1
  have HC1:=Lib.hid hc1
  obtain ⟨n1,hn1⟩:∃ n1,(ws.drop 1).length=n1:=⟨_,rfl⟩
  rw [hn1] at hv1 hcap1 hm1
  have HN1:=Lib.hid hn1
  unfold maxLen at hm1
  have HVE:=Lib.hid hv1
  clear hc1 hn1 hv1
  subst hl
  go_enter Tryz.func67,Tryz.ntmps67
  go_wp2_with fail
  refine (HLA.out _).mono ?_
  rintro en w1 ⟨rfl,rfl⟩
  have hv1:=HVE.out
  simp only [Int.natCast_one] at hv1
  go_wp2
  clear hv1
  go_loop [15] (fun s15=>∃ i:Nat,i≤n1∧s15=.int .i64 (i:Int)∧Hid (SoFarS nmB (ws.drop 1) i)) (fun s15=>n1 - (intOf s15).toNat)
  case atStart=>exact ⟨0,Nat.zero_le _,rfl,Lib.hid (fun j x hj=>absurd hj (Nat.not_lt_zero _))⟩
  case round =>
   obtain ⟨i,hi,rfl,HSF⟩:=hrel
   by_cases hlt:i < n1
   ·obtain ⟨x,hx⟩:∃ x,(ws.drop 1)[i]?=some x:=⟨_,List.getElem?_eq_getElem (by rw [HN1.out];exact hlt)⟩
    obtain ⟨b2,o2,rfl,q0⟩:=HC1.out i x hx
    have HX:=Lib.hid hx
    obtain ⟨bb,hbb⟩:∃ bb,nmB x=bb:=⟨_,rfl⟩
    have HNA:=Lib.hid (fun W=>name_at x W)
    have hnm:nameL x.data.toList=bb:=hbb
    simp only [hnm] at HNA
    have HBB:=Lib.hid hbb
    clear hx hnm hbb
    cases bb with
    | false =>
      have HRF:Hid (r=false):=Lib.hid (by
       rw [HFP2.out,←Bool.not_eq_true,List.all_eq_true]
       intro h'
       have:=h' x (List.mem_of_getElem? HX.out)
       rw [HBB.out] at this;cases this)
      go_wp2_with fail
      refine (HNA.out _).mono ?_
      rintro en w1 ⟨rfl,rfl⟩
      go_wp2
      go_ret
      exact ⟨by rw [HRF.out];rfl,rfl⟩
    | true =>
      have HSN:Hid (SoFarS nmB (ws.drop 1) (i+1)):=Lib.hid (fun j y hj hy=>by
       rcases Nat.lt_or_ge j i with h' | h'
       ·exact HSF.out j y h' hy
       ·obtain rfl:j=i:=by omega
        rw [HX.out] at hy;cases hy;exact HBB.out)
      go_wp2_with fail
      refine (HNA.out _).mono ?_
      rintro en w1 ⟨rfl,rfl⟩
      go_wp2
      go_round
      case rel=>exact ⟨i+1,by omega,by go_num,HSN⟩
      case measure=>simp [intOf];omega
   ·have HRT:Hid (r=true):=Lib.hid (by
     rw [HFP2.out,List.all_eq_true]
     intro x hx
     obtain ⟨j,hj,ej⟩:=List.getElem_of_mem hx
     exact HSF.out j x (by rw [HN1.out] at hj;omega) (by rw [List.getElem?_eq_getElem hj,ej]))
    go_wp2
    go_ret
    exact ⟨by rw [HRT.out];rfl,rfl⟩
 ·have HRF:Hid (r=false):=Lib.hid (by rw [HFP.out,decide_eq_false hl,Bool.false_and])
  go_enter Tryz.func67,Tryz.ntmps67
  go_wp2_with fail
  refine (HLA.out _).mono ?_
  rintro en w1 ⟨rfl,rfl⟩
  go_wp2
  go_ret
  exact ⟨by rw [HRF.out];rfl,rfl⟩
end Go.Proofs.YthcpglnmhimepaaGreatDoor.Un
