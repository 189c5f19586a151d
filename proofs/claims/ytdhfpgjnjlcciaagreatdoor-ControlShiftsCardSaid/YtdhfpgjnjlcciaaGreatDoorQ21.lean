/- UnitDocAll LexRwords LexRlines UnitHad -/
import Derived.Test.YtdhfpgjnjlcciaaGreatDoorQ20
section
namespace Go.Proofs.YtdhfpgjnjlcciaaGreatDoor.Un
open Go.RowKit
theorem kD {P:Program} {o:Oper} {act:Act} {w:World} {K:Act→World→Prop} {Q:Exit→Act→World→Prop} (ty:TypeId) (x y:Operand) (ho:o.op=.store ty x y)
 (g:Nat) (z a:Acct) (t:TypeId) (hx:act.eval x=.pointer (some ⟨g,0,none⟩)) (hy:act.eval y=aggF a) (hg:BoxA w g t z) (hi:(P.info? ty).map (·.size)=some 6)
 (h:∀ w',BoxA w' g t a→w.grownBy w' (some g)→K (act.put o.dst undef) w'):o.wp P act w K Q :=
 wp_store_row ty x y ho g _ hx hy t _ hg hi rfl (Xn a) (h _ (hg.set a) (QE w g _))
def codesD (M:Mast):List (ByteArray × Int):=[(M.res,2),(M.min,2),(M.dif,0),(M.stk,0)]
theorem zfN {M:Mast} {i:Nat} {x:ByteArray} {k:Int} (h:(codesD M)[i]?=some (x,k)):k=if 1 < i then 0 else 2:=by
 match i,h with
 | 0,h=>simp [codesD] at h;simp [h.2.symm]
 | 1,h=>simp [codesD] at h;simp [h.2.symm]
 | 2,h=>simp [codesD] at h;simp [h.2.symm]
 | 3,h=>simp [codesD] at h;simp [h.2.symm]
 | i+4,h=>simp [codesD] at h
def allD (M:Mast):Int :=
 if M.cur=emp then 6
 else if (codesD M).all (fun x=>(findL M.chart x.1).isSome)=false then 6
 else if M.lines.all (fun x=>(findL M.chart x.acc).isSome && (Fl.findF M.flows x.flow).isSome)=false then 6
 else if Fl.qb M.flows 5=false then 8
 else if (codesD M).all (fun x=>specA (findV (findL M.chart x.1)) x.2)=false then 15 else 0
set_option maxRecDepth 100000 in
set_option maxHeartbeats 16000000 in
theorem zaS (c f e l:Value) (M:Mast) (w:World) (h:MastIn w c f e l M) (hfl:M.flows.length≤1000) :
 Calls Tryz.prog 63 #[aggM c f e l M] w fun en w'=>en=.returned (.int .i64 (allD M))∧Below w.heap.size w w':=by
 have hb0:=(Below.refl w.heap.size w).alloc (Nat.le_refl _) (.cells (cellsM c f e l M) 39)
 have hb1:=hb0.alloc hb0.size (.cells #[.string M.res,.string M.min,.string M.dif,.string M.stk] 9)
 have hbx:=(Below.refl _ (w.alloc (.cells (cellsM c f e l M) 39))).alloc (Nat.le_refl _) (.cells #[.string M.res,.string M.min,.string M.dif,.string M.stk] 9)
 have hn0:=zM w c f e l M 39
 have hn1:=hn0.kept hbx
 have hm1:=h.keep hb1
 have hst:=YJ (w.alloc (.cells (cellsM c f e l M) 39)) ((codesD M).map (·.1)) 9 (by unfold maxLen;simp [codesD])
 rw [World.size_alloc] at hst
 obtain ⟨W1,hW1⟩:∃ W1,(w.alloc (.cells (cellsM c f e l M) 39)).alloc (.cells #[.string M.res,.string M.min,.string M.dif,.string M.stk] 9)=W1:=⟨_,rfl⟩
 have hst1:StrsV W1 (.slice (some ⟨w.heap.size+1,0,none⟩) 4 4) ((codesD M).map (·.1)):=by rw [←hW1];exact hst
 rw [hW1] at hb1 hn1 hm1
 have HB1:=Lib.hid hb1
 have HN1:=Lib.hid hn1
 have HM1:=Lib.hid hm1
 obtain ⟨p,cp,e1,_,_,hst2⟩:=hst1
 cases e1
 have HST:=Lib.hid hst2
 have HCN:Hid ((codesD M).length=4):=Lib.hid rfl
 obtain ⟨pl,cl,el,hcl,hml,_,hlv⟩:=hm1.lines
 subst el
 obtain ⟨n,hn⟩:∃ n,M.lines.length=n:=⟨_,rfl⟩
 rw [hn] at hcl HN1 HM1 hn1 hW1 ⊢
 have HN:=Lib.hid hn
 have HLV:=Lib.hid hlv
 have HFI:=Lib.hid (fun x W hW=>Qg c M.chart x W hW)
 have HKI:=Lib.hid (fun x W hW=>Jf f M.flows x W hW)
 have HWH:=Lib.hid (fun W hW=>ziP f M.flows W hW hfl)
 obtain ⟨R,hR⟩:∃ R,allD M=R:=⟨_,rfl⟩
 rw [hR]
 have HR:Hid (allD M=R):=Lib.hid hR
 unfold maxLen at hml
 by_cases hcur:M.cur=emp
 ·have HRF:Hid (R=6):=Lib.hid (by rw [←HR.out];unfold allD;rw [if_pos hcur])
  have hq2:M.cur.toList.isEmpty=true:=by
   have hne:(!M.cur.toList.isEmpty)=false:=by rw [hcur];exact qT
   revert hne;cases M.cur.toList.isEmpty <;> simp
  clear hb0 hb1 hbx hn0 hm1 hst hst2 hn hlv hR h hcur
  obtain ⟨k0,k1,k2,k3,k4,k5,k6,k7,k8⟩:=hn1
  go_enter Tryz.func63,Tryz.ntmps63
  go_wp2
  go_ret
  exact ⟨by rw [HRF.out];rfl,HB1.out⟩
 have HCU:=Lib.hid hcur
 have hq2:M.cur.toList.isEmpty=false:=by
  have hne:(!M.cur.toList.isEmpty)=true:=(ji M.cur).2 hcur
  revert hne;cases M.cur.toList.isEmpty <;> simp
 clear hb0 hb1 hbx hn0 hm1 hst hst2 hn hlv hR h hcur
 obtain ⟨k0,k1,k2,k3,k4,k5,k6,k7,k8⟩:=hn1
 go_enter Tryz.func63,Tryz.ntmps63
 go_wp2
 clear k0 k1 k2 k3 k4 k5 k6 k7 k8 hW1 hq2
 go_loopw [4] (fun si wr=>∃ i:Nat,i≤4∧si=.int .i64 (i:Int)∧Hid (Below W1.heap.size W1 wr)∧Hid (SoFar (fun x:ByteArray × Int=>(findL M.chart x.1).isSome) (codesD M) i)) (fun si _=>4 - (intOf si).toNat)
 case atStart=>exact ⟨0,by omega,rfl,Lib.hid (Below.refl _ _),Lib.hid (SoFar.zero _ _)⟩
 case round =>
  obtain ⟨i,hi,rfl,HB,HSF⟩:=hrel
  by_cases hlt:i < 4
  ·obtain ⟨⟨x,kx⟩,hx⟩:∃ x,(codesD M)[i]?=some x:=⟨_,List.getElem?_eq_getElem (by rw [HCN.out];exact hlt)⟩
   obtain ⟨b,o,e2,hcx⟩:=HST.out i x (by rw [List.getElem?_map,hx];rfl)
   cases e2
   have HX:=Lib.hid hx
   have y0:=cell_later HB.out hcx
   rw [Nat.zero_add] at y0
   have k0:=(HN1.out.keep HB.out HN1.out.lt).c0
   have r0:=fun p:Past wr=>za y0 p
   have r1:=fun p:Past wr=>za k0 p
   obtain ⟨FA,hFA⟩:∃ FA,findV (findL M.chart x)=FA:=⟨_,rfl⟩
   obtain ⟨IS,hIS⟩:∃ IS,(findL M.chart x).isSome=IS:=⟨_,rfl⟩
   have HF:=Lib.hid (HFI.out x)
   rw [hFA,hIS] at HF
   have HIS:=Lib.hid hIS
   have HCH:=Lib.hid (HM1.out.chart.keep HB.out)
   clear hx hcx hFA hIS y0 k0
   go_wp2_with fail
   refine qX (.two [0,1,2,3,4,5] 6 (.one [7,8,9] 10 (.one [] 11 (.last [12]))) 10 (.one [] 6 (.one [7,8,9] 11 (.last [12])))) (by kernel_rfl) (by kernel_rfl) (fun d _ _ _ _ h=>by cases d <;> exact h) ?_
   obtain ⟨wq,hwq⟩:∃ wq,wr.drew=wq:=⟨_,rfl⟩
   rw [hwq]
   have HD:Hid (Below wr.heap.size wr wq):=Lib.hid (by rw [←hwq];exact ⟨rfl,rfl,rfl,Nat.le_refl _,fun _ _=>rfl⟩)
   clear hwq
   simp only [wpPlan,pick,nth]
   repeat (go_big_quiet_step (fail))
   refine wpQuiet_nil ?_
   clear r0 r1
   refine ⟨?_,?_⟩
   ·intro K hK
    refine ze (by kernel_rfl) ?_
    go_big_op
    refine (HF.out wq (HCH.out.keep HD.out)).mono ?_
    rintro en w2 ⟨rfl,hb2⟩
    have HP2:=Lib.hid (HD.out.trans (hb2.mono HD.out.size))
    clear hb2
    refine hK _ _ (zy HP2.out) ?_
    clear hK K
    repeat (go_big_quiet_step (fail))
    refine wpQuiet_nil ?_
    intro K hK
    refine ze (by kernel_rfl) ?_
    go_big_op
    have HP3:=Lib.hid (HP2.out.alloc HP2.out.size (.cells (encA.cs zeroA).toArray 151))
    refine hK _ _ (zy HP3.out) ?_
    clear hK K
    refine wpQuiet_nil ?_
    intro K hK
    refine ze (by kernel_rfl) ?_
    refine kD 151 (.tmp 5) (.tmp 40) rfl w2.heap.size zeroA FA 151 rfl rfl (BoxA.new w2 zeroA _) (by kernel_rfl) ?_
    intro w3 hb3 hg3
    have HP4:=Lib.hid (HP3.out.grown hg3 HP3.out.size (fun j hj=>by cases hj;exact HP2.out.size))
    have HX3:=Lib.hid hb3
    clear hb3 hg3
    refine hK _ _ (zy HP4.out) ?_
    clear hK K
    simp only [Act.put]
    repeat (go_big_quiet_step (fail))
    refine wpQuiet_nil ?_
    have HBN:=Lib.hid (HB.out.trans (HP4.out.mono HB.out.size))
    cases IS with
    | false =>
      have HRF:Hid (R=6):=Lib.hid (by
       rw [←HR.out];unfold allD
       rw [if_neg HCU.out,if_pos (zX HX.out HIS.out)])
      go_wp2
      go_ret
      exact ⟨by rw [HRF.out];rfl,HB1.out.trans (HBN.out.mono HB1.out.size)⟩
    | true =>
      have HSN:=Lib.hid (HSF.out.next HX.out HIS.out)
      go_wp2
      go_roundw
      case rel=>exact ⟨i+1,by omega,by go_num,HBN,HSN⟩
      case measure=>simp [intOf];omega
   ·intro K hK
    refine ze (by kernel_rfl) ?_
    go_big_op
    have HP2:=Lib.hid (HD.out.alloc HD.out.size (.cells (encA.cs zeroA).toArray 151))
    have hb2:BoxA (wq.alloc (.cells (encA.cs zeroA).toArray 151)) wq.heap.size 151 zeroA:=BoxA.new wq zeroA _
    refine hK _ _ (zy HP2.out) ?_
    clear hK K
    refine wpQuiet_nil ?_
    intro K hK
    refine ze (by kernel_rfl) ?_
    go_big_op
    refine (HF.out _ (HCH.out.keep HP2.out)).mono ?_
    rintro en w2 ⟨rfl,hb3⟩
    have HP3:=Lib.hid (HP2.out.trans (hb3.mono HP2.out.size))
    have HX2:=Lib.hid (hb2.keep hb3 (Array.getElem?_eq_some_iff.1 hb2).1)
    clear hb2 hb3
    refine hK _ _ (zy HP3.out) ?_
    clear hK K
    repeat (go_big_quiet_step (fail))
    refine wpQuiet_nil ?_
    intro K hK
    refine ze (by kernel_rfl) ?_
    refine kD 151 (.tmp 5) (.tmp 40) rfl wq.heap.size zeroA FA 151 rfl rfl HX2.out (by kernel_rfl) ?_
    intro w3 hb3 hg3
    have HP4:=Lib.hid (HP3.out.grown hg3 HP3.out.size (fun j hj=>by cases hj;exact HD.out.size))
    have HX3:=Lib.hid hb3
    clear hb3 hg3
    refine hK _ _ (zy HP4.out) ?_
    clear hK K
    simp only [Act.put]
    repeat (go_big_quiet_step (fail))
    refine wpQuiet_nil ?_
    have HBN:=Lib.hid (HB.out.trans (HP4.out.mono HB.out.size))
    cases IS with
    | false =>
      have HRF:Hid (R=6):=Lib.hid (by
       rw [←HR.out];unfold allD
       rw [if_neg HCU.out,if_pos (zX HX.out HIS.out)])
      go_wp2
      go_ret
      exact ⟨by rw [HRF.out];rfl,HB1.out.trans (HBN.out.mono HB1.out.size)⟩
    | true =>
      have HSN:=Lib.hid (HSF.out.next HX.out HIS.out)
      go_wp2
      go_roundw
      case rel=>exact ⟨i+1,by omega,by go_num,HBN,HSN⟩
      case measure=>simp [intOf];omega
  ·have HA1:Hid ((codesD M).all (fun x=>(findL M.chart x.1).isSome)=true):=Lib.hid (HSF.out.done (by rw [HCN.out];omega))
   rename World=>wa
   go_wp2
   go_loopw [7] (fun si wr=>∃ i:Nat,i≤n∧si=.int .i64 (i:Int)∧Hid (Below W1.heap.size W1 wr)∧Hid (SoFar (fun x:Lin=>(findL M.chart x.acc).isSome && (Fl.findF M.flows x.flow).isSome) M.lines i)) (fun si _=>n - (intOf si).toNat)
   case atStart=>exact ⟨0,by omega,rfl,HB,Lib.hid (SoFar.zero _ _)⟩
   case round =>
    clear HB HSF
    obtain ⟨i,hi,rfl,HB,HSF⟩:=hrel
    by_cases hlt:i < n
    ·obtain ⟨x,hx⟩:∃ x,M.lines[i]?=some x:=⟨_,List.getElem?_eq_getElem (by rw [HN.out];exact hlt)⟩
     obtain ⟨b,o,rfl,hat⟩:=HLV.out i x hx
     have HX:=Lib.hid hx
     have HAT:=Lib.hid hat
     obtain ⟨d0,d1,d2⟩:=lin3 (hat.keep HB.out hat.lt)
     obtain ⟨k0,k1,k2,k3,k4,k5,k6,k7,k8⟩:=HN1.out.keep HB.out HN1.out.lt
     have r0:=fun p:Past wr=>za d0 p
     have r1:=fun p:Past wr=>za k0 p
     have r2:=fun p:Past wr=>za k3 p
     obtain ⟨FA,hFA⟩:∃ FA,findV (findL M.chart x.acc)=FA:=⟨_,rfl⟩
     obtain ⟨IS,hIS⟩:∃ IS,(findL M.chart x.acc).isSome=IS:=⟨_,rfl⟩
     obtain ⟨KK,hKK⟩:∃ KK,kindO' (Fl.findF M.flows x.flow)=KK:=⟨_,rfl⟩
     obtain ⟨HS,hHS⟩:∃ HS,(Fl.findF M.flows x.flow).isSome=HS:=⟨_,rfl⟩
     have HF:=Lib.hid (HFI.out x.acc)
     have HK:=Lib.hid (HKI.out x.flow)
     rw [hFA,hIS] at HF
     rw [hKK,hHS] at HK
     have HIS:=Lib.hid hIS
     have HHS:=Lib.hid hHS
     have HCH:=Lib.hid (HM1.out.chart.keep HB.out)
     clear hx hat hFA hIS hKK hHS d0 d1 d2 k0 k1 k2 k4 k5 k6 k7 k8
     go_wp2_with fail
     refine qX (.two [0,1,2,3,4,5,6,7] 8 (.one [9,10,11] 12 (.one [] 13 (.last [14]))) 12 (.one [] 8 (.one [9,10,11] 13 (.last [14])))) (by kernel_rfl) (by kernel_rfl) (fun d _ _ _ _ h=>by cases d <;> exact h) ?_
     obtain ⟨wq,hwq⟩:∃ wq,wr.drew=wq:=⟨_,rfl⟩
     rw [hwq]
     have HD:Hid (Below wr.heap.size wr wq):=Lib.hid (by rw [←hwq];exact ⟨rfl,rfl,rfl,Nat.le_refl _,fun _ _=>rfl⟩)
     clear hwq
     simp only [wpPlan,pick,nth]
     repeat (go_big_quiet_step (fail))
     refine wpQuiet_nil ?_
     clear r0 r1 r2 k3
     refine ⟨?_,?_⟩
     ·intro K hK
      refine ze (by kernel_rfl) ?_
      go_big_op
      refine (HF.out wq (HCH.out.keep HD.out)).mono ?_
      rintro en w2 ⟨rfl,hb2⟩
      have HP2:=Lib.hid (HD.out.trans (hb2.mono HD.out.size))
      clear hb2
      refine hK _ _ (zy HP2.out) ?_
      clear hK K
      repeat (go_big_quiet_step (fail))
      refine wpQuiet_nil ?_
      intro K hK
      refine ze (by kernel_rfl) ?_
      go_big_op
      have HP3:=Lib.hid (HP2.out.alloc HP2.out.size (.cells (encA.cs zeroA).toArray 151))
      refine hK _ _ (zy HP3.out) ?_
      clear hK K
      refine wpQuiet_nil ?_
      intro K hK
      refine ze (by kernel_rfl) ?_
      refine kD 151 (.tmp 8) (.tmp 61) rfl w2.heap.size zeroA FA 151 rfl rfl (BoxA.new w2 zeroA _) (by kernel_rfl) ?_
      intro w3 hb3 hg3
      have HP4:=Lib.hid (HP3.out.grown hg3 HP3.out.size (fun j hj=>by cases hj;exact HP2.out.size))
      have HX3:=Lib.hid hb3
      clear hb3 hg3
      refine hK _ _ (zy HP4.out) ?_
      clear hK K
      simp only [Act.put]
      repeat (go_big_quiet_step (fail))
      refine wpQuiet_nil ?_
      have HBN:=Lib.hid (HB.out.trans (HP4.out.mono HB.out.size))
      obtain ⟨d0,d1,d2⟩:=lin3 (HAT.out.keep HBN.out HAT.out.lt)
      obtain ⟨k0,k1,k2,k3,k4,k5,k6,k7,k8⟩:=HN1.out.keep HBN.out HN1.out.lt
      have s0:=fun p:Past w3=>za d1 p
      have s1:=fun p:Past w3=>za k1 p
      have s2:=fun p:Past w3=>za k3 p
      have HFV:=Lib.hid (HM1.out.flows.keep HBN.out)
      have HD5:Hid (Below w3.heap.size w3 w3.drew):=Lib.hid ⟨rfl,rfl,rfl,Nat.le_refl _,fun _ _=>rfl⟩
      clear d0 d1 d2 k0 k1 k2 k3 k4 k5 k6 k7 k8
      go_wp2_with fail
      refine qX (.one [0,1,2,3,4,5,6,7] 8 (.last [9,10,11,12,13])) (by kernel_rfl) (by kernel_rfl) (fun d _ _ _ _ h=>by cases d <;> exact h) ?_
      simp only [wpPlan,pick,nth]
      repeat (go_big_quiet_step (fail))
      refine wpQuiet_nil ?_
      intro K hK
      refine ze (by kernel_rfl) ?_
      go_big_op
      refine (HK.out _ (HFV.out.keep HD5.out)).mono ?_
      rintro en w5 ⟨rfl,hb5⟩
      have HP5:=Lib.hid (HD5.out.trans (hb5.mono HD5.out.size))
      have HBM:=Lib.hid (HBN.out.trans (HP5.out.mono HBN.out.size))
      refine hK _ _ (zy HP5.out) ?_
      clear hK K hb5 s0 s1 s2
      repeat (go_big_quiet_step (fail))
      refine wpQuiet_nil ?_
      have HRX:Hid ((IS && HS)=false→R=6):=Lib.hid (fun hf=>by
       rw [←HR.out];unfold allD
       rw [if_neg HCU.out,if_neg (by rw [HA1.out];simp),if_pos (zX HX.out (by rw [HIS.out,HHS.out];exact hf))])
      cases IS with
      | false =>
        have HRF:=Lib.hid (HRX.out rfl)
        go_wp2
        go_ret
        exact ⟨by rw [HRF.out];rfl,HB1.out.trans (HBM.out.mono HB1.out.size)⟩
      | true =>
        cases HS with
        | false =>
          have HRF:=Lib.hid (HRX.out rfl)
          go_wp2
          go_ret
          exact ⟨by rw [HRF.out];rfl,HB1.out.trans (HBM.out.mono HB1.out.size)⟩
        | true =>
          have HSN:=Lib.hid (HSF.out.next HX.out (by rw [HIS.out,HHS.out];rfl))
          go_wp2
          go_roundw
          case rel=>exact ⟨i+1,by omega,by go_num,HBM,HSN⟩
          case measure=>simp [intOf];omega
     ·intro K hK
      refine ze (by kernel_rfl) ?_
      go_big_op
      have HP2:=Lib.hid (HD.out.alloc HD.out.size (.cells (encA.cs zeroA).toArray 151))
      have hb2:BoxA (wq.alloc (.cells (encA.cs zeroA).toArray 151)) wq.heap.size 151 zeroA:=BoxA.new wq zeroA _
      refine hK _ _ (zy HP2.out) ?_
      clear hK K
      refine wpQuiet_nil ?_
      intro K hK
      refine ze (by kernel_rfl) ?_
      go_big_op
      refine (HF.out _ (HCH.out.keep HP2.out)).mono ?_
      rintro en w2 ⟨rfl,hb3⟩
      have HP3:=Lib.hid (HP2.out.trans (hb3.mono HP2.out.size))
      have HX2:=Lib.hid (hb2.keep hb3 (Array.getElem?_eq_some_iff.1 hb2).1)
      clear hb2 hb3
      refine hK _ _ (zy HP3.out) ?_
      clear hK K
      repeat (go_big_quiet_step (fail))
      refine wpQuiet_nil ?_
      intro K hK
      refine ze (by kernel_rfl) ?_
      refine kD 151 (.tmp 8) (.tmp 61) rfl wq.heap.size zeroA FA 151 rfl rfl HX2.out (by kernel_rfl) ?_
      intro w3 hb3 hg3
      have HP4:=Lib.hid (HP3.out.grown hg3 HP3.out.size (fun j hj=>by cases hj;exact HD.out.size))
      have HX3:=Lib.hid hb3
      clear hb3 hg3
      refine hK _ _ (zy HP4.out) ?_
      clear hK K
      simp only [Act.put]
      repeat (go_big_quiet_step (fail))
      refine wpQuiet_nil ?_
      have HBN:=Lib.hid (HB.out.trans (HP4.out.mono HB.out.size))
      obtain ⟨d0,d1,d2⟩:=lin3 (HAT.out.keep HBN.out HAT.out.lt)
      obtain ⟨k0,k1,k2,k3,k4,k5,k6,k7,k8⟩:=HN1.out.keep HBN.out HN1.out.lt
      have s0:=fun p:Past w3=>za d1 p
      have s1:=fun p:Past w3=>za k1 p
      have s2:=fun p:Past w3=>za k3 p
      have HFV:=Lib.hid (HM1.out.flows.keep HBN.out)
      have HD5:Hid (Below w3.heap.size w3 w3.drew):=Lib.hid ⟨rfl,rfl,rfl,Nat.le_refl _,fun _ _=>rfl⟩
      clear d0 d1 d2 k0 k1 k2 k3 k4 k5 k6 k7 k8
      go_wp2_with fail
      refine qX (.one [0,1,2,3,4,5,6,7] 8 (.last [9,10,11,12,13])) (by kernel_rfl) (by kernel_rfl) (fun d _ _ _ _ h=>by cases d <;> exact h) ?_
      simp only [wpPlan,pick,nth]
      repeat (go_big_quiet_step (fail))
      refine wpQuiet_nil ?_
      intro K hK
      refine ze (by kernel_rfl) ?_
      go_big_op
      refine (HK.out _ (HFV.out.keep HD5.out)).mono ?_
      rintro en w5 ⟨rfl,hb5⟩
      have HP5:=Lib.hid (HD5.out.trans (hb5.mono HD5.out.size))
      have HBM:=Lib.hid (HBN.out.trans (HP5.out.mono HBN.out.size))
      refine hK _ _ (zy HP5.out) ?_
      clear hK K hb5 s0 s1 s2
      repeat (go_big_quiet_step (fail))
      refine wpQuiet_nil ?_
      have HRX:Hid ((IS && HS)=false→R=6):=Lib.hid (fun hf=>by
       rw [←HR.out];unfold allD
       rw [if_neg HCU.out,if_neg (by rw [HA1.out];simp),if_pos (zX HX.out (by rw [HIS.out,HHS.out];exact hf))])
      cases IS with
      | false =>
        have HRF:=Lib.hid (HRX.out rfl)
        go_wp2
        go_ret
        exact ⟨by rw [HRF.out];rfl,HB1.out.trans (HBM.out.mono HB1.out.size)⟩
      | true =>
        cases HS with
        | false =>
          have HRF:=Lib.hid (HRX.out rfl)
          go_wp2
          go_ret
          exact ⟨by rw [HRF.out];rfl,HB1.out.trans (HBM.out.mono HB1.out.size)⟩
        | true =>
          have HSN:=Lib.hid (HSF.out.next HX.out (by rw [HIS.out,HHS.out];rfl))
          go_wp2
          go_roundw
          case rel=>exact ⟨i+1,by omega,by go_num,HBM,HSN⟩
          case measure=>simp [intOf];omega
    ·have HA2:Hid (M.lines.all (fun x=>(findL M.chart x.acc).isSome && (Fl.findF M.flows x.flow).isSome)=true):=Lib.hid (HSF.out.done (by rw [HN.out];omega))
     obtain ⟨k0,k1,k2,k3,k4,k5,k6,k7,k8⟩:=HN1.out.keep HB.out HN1.out.lt
     have HFV:=Lib.hid (HM1.out.flows.keep HB.out)
     obtain ⟨WH,hWH⟩:∃ WH,Fl.qb M.flows 5=WH:=⟨_,rfl⟩
     have HW:=Lib.hid (HWH.out)
     rw [hWH] at HW
     have HHW:=Lib.hid hWH
     clear hWH
     go_wp2_with fail
     refine (HW.out _ HFV.out).mono ?_
     rintro en w5 ⟨rfl,hb5⟩
     have HB5:=Lib.hid (HB.out.trans (hb5.mono HB.out.size))
     clear hb5 k0 k1 k2 k3 k4 k5 k6 k7 k8
     cases WH with
     | false =>
       have HRF:Hid (R=8):=Lib.hid (by
        rw [←HR.out];unfold allD
        rw [if_neg HCU.out,if_neg (by rw [HA1.out];simp),if_neg (by rw [HA2.out];simp),if_pos HHW.out])
       go_wp2
       go_ret
       exact ⟨by rw [HRF.out];rfl,HB1.out.trans (HB5.out.mono HB1.out.size)⟩
     | true =>
       go_wp2
       go_loopw [12] (fun si wr=>∃ i:Nat,i≤4∧si=.int .i64 (i:Int)∧Hid (Below W1.heap.size W1 wr)∧Hid (SoFar (fun x:ByteArray × Int=>specA (findV (findL M.chart x.1)) x.2) (codesD M) i)) (fun si _=>4 - (intOf si).toNat)
       case atStart=>exact ⟨0,by omega,rfl,HB5,Lib.hid (SoFar.zero _ _)⟩
       case round =>
        clear HB HSF
        obtain ⟨i,hi,rfl,HB,HSF⟩:=hrel
        by_cases hlt:i < 4
        ·obtain ⟨⟨x,kx⟩,hx⟩:∃ x,(codesD M)[i]?=some x:=⟨_,List.getElem?_eq_getElem (by rw [HCN.out];exact hlt)⟩
         obtain ⟨b,o,e2,hcx⟩:=HST.out i x (by rw [List.getElem?_map,hx];rfl)
         cases e2
         have HX:=Lib.hid hx
         have hkx:=zfN hx
         have y0:=cell_later HB.out hcx
         rw [Nat.zero_add] at y0
         have k0:=(HN1.out.keep HB.out HN1.out.lt).c0
         have r0:=fun p:Past wr=>za y0 p
         have r1:=fun p:Past wr=>za k0 p
         obtain ⟨FA,hFA⟩:∃ FA,findV (findL M.chart x)=FA:=⟨_,rfl⟩
         obtain ⟨IS,hIS⟩:∃ IS,(findL M.chart x).isSome=IS:=⟨_,rfl⟩
         have HF:=Lib.hid (HFI.out x)
         rw [hFA,hIS] at HF
         have HFA:=Lib.hid hFA
         have HCH:=Lib.hid (HM1.out.chart.keep HB.out)
         clear hx hcx hFA hIS y0 k0
         go_wp2_with fail
         refine qX (.two [0,1,2,3,4,5] 6 (.one [7,8,9] 10 (.one [] 11 (.last [12]))) 10 (.one [] 6 (.one [7,8,9] 11 (.last [12])))) (by kernel_rfl) (by kernel_rfl) (fun d _ _ _ _ h=>by cases d <;> exact h) ?_
         obtain ⟨wq,hwq⟩:∃ wq,wr.drew=wq:=⟨_,rfl⟩
         rw [hwq]
         have HD:Hid (Below wr.heap.size wr wq):=Lib.hid (by rw [←hwq];exact ⟨rfl,rfl,rfl,Nat.le_refl _,fun _ _=>rfl⟩)
         clear hwq
         simp only [wpPlan,pick,nth]
         repeat (go_big_quiet_step (fail))
         refine wpQuiet_nil ?_
         clear r0 r1
         refine ⟨?_,?_⟩
         ·intro K hK
          refine ze (by kernel_rfl) ?_
          go_big_op
          refine (HF.out wq (HCH.out.keep HD.out)).mono ?_
          rintro en w2 ⟨rfl,hb2⟩
          have HP2:=Lib.hid (HD.out.trans (hb2.mono HD.out.size))
          clear hb2
          refine hK _ _ (zy HP2.out) ?_
          clear hK K
          repeat (go_big_quiet_step (fail))
          refine wpQuiet_nil ?_
          intro K hK
          refine ze (by kernel_rfl) ?_
          go_big_op
          have HP3:=Lib.hid (HP2.out.alloc HP2.out.size (.cells (encA.cs zeroA).toArray 151))
          refine hK _ _ (zy HP3.out) ?_
          clear hK K
          refine wpQuiet_nil ?_
          intro K hK
          refine ze (by kernel_rfl) ?_
          refine kD 151 (.tmp 13) (.tmp 97) rfl w2.heap.size zeroA FA 151 rfl rfl (BoxA.new w2 zeroA _) (by kernel_rfl) ?_
          intro w3 hb3 hg3
          have HP4:=Lib.hid (HP3.out.grown hg3 HP3.out.size (fun j hj=>by cases hj;exact HP2.out.size))
          have HX3:=Lib.hid hb3
          clear hb3 hg3
          refine hK _ _ (zy HP4.out) ?_
          clear hK K
          simp only [Act.put]
          repeat (go_big_quiet_step (fail))
          refine wpQuiet_nil ?_
          have HBN:=Lib.hid (HB.out.trans (HP4.out.mono HB.out.size))
          obtain ⟨q0,q1,q2,q3,q4,q5⟩:=HX3.out.facts
          obtain ⟨SP,hSP⟩:∃ SP,specA FA kx=SP:=⟨_,rfl⟩
          have HSP:=Lib.hid hSP
          have HSC:=Lib.hid (fun W=>VR FA kx W)
          rw [hSP] at HSC
          clear hSP
          by_cases hi1:1 < i
          ·rw [if_pos hi1] at hkx
           subst hkx
           have hi1z:(1:Int) < (i:Int):=by omega
           go_wp2_with fail
           refine (HSC.out _).mono ?_
           rintro en w5 ⟨rfl,hb5⟩
           have HBM:=Lib.hid (HBN.out.trans (hb5.mono HBN.out.size))
           clear hb5 q0 q1 q2 q3 q4 q5
           cases SP with
           | false =>
             have HRF:Hid (R=15):=Lib.hid (by
              rw [←HR.out];unfold allD
              rw [if_neg HCU.out,if_neg (by rw [HA1.out];simp),if_neg (by rw [HA2.out];simp),if_neg (by rw [HHW.out];simp),if_pos (zX HX.out (by rw [HFA.out];exact HSP.out))])
             go_wp2
             go_ret
             exact ⟨by rw [HRF.out];rfl,HB1.out.trans (HBM.out.mono HB1.out.size)⟩
           | true =>
             have HSN:=Lib.hid (HSF.out.next HX.out (by rw [HFA.out];exact HSP.out))
             go_wp2
             go_roundw
             case rel=>exact ⟨i+1,by omega,by go_num,HBM,HSN⟩
             case measure=>simp [intOf];omega
          ·rw [if_neg hi1] at hkx
           subst hkx
           have hi1z:¬ (1:Int) < (i:Int):=by omega
           go_wp2_with fail
           refine (HSC.out _).mono ?_
           rintro en w5 ⟨rfl,hb5⟩
           have HBM:=Lib.hid (HBN.out.trans (hb5.mono HBN.out.size))
           clear hb5 q0 q1 q2 q3 q4 q5
           cases SP with
           | false =>
             have HRF:Hid (R=15):=Lib.hid (by
              rw [←HR.out];unfold allD
              rw [if_neg HCU.out,if_neg (by rw [HA1.out];simp),if_neg (by rw [HA2.out];simp),if_neg (by rw [HHW.out];simp),if_pos (zX HX.out (by rw [HFA.out];exact HSP.out))])
             go_wp2
             go_ret
             exact ⟨by rw [HRF.out];rfl,HB1.out.trans (HBM.out.mono HB1.out.size)⟩
           | true =>
             have HSN:=Lib.hid (HSF.out.next HX.out (by rw [HFA.out];exact HSP.out))
             go_wp2
             go_roundw
             case rel=>exact ⟨i+1,by omega,by go_num,HBM,HSN⟩
             case measure=>simp [intOf];omega
         ·intro K hK
          refine ze (by kernel_rfl) ?_
          go_big_op
          have HP2:=Lib.hid (HD.out.alloc HD.out.size (.cells (encA.cs zeroA).toArray 151))
          have hb2:BoxA (wq.alloc (.cells (encA.cs zeroA).toArray 151)) wq.heap.size 151 zeroA:=BoxA.new wq zeroA _
          refine hK _ _ (zy HP2.out) ?_
          clear hK K
          refine wpQuiet_nil ?_
          intro K hK
          refine ze (by kernel_rfl) ?_
          go_big_op
          refine (HF.out _ (HCH.out.keep HP2.out)).mono ?_
          rintro en w2 ⟨rfl,hb3⟩
          have HP3:=Lib.hid (HP2.out.trans (hb3.mono HP2.out.size))
          have HX2:=Lib.hid (hb2.keep hb3 (Array.getElem?_eq_some_iff.1 hb2).1)
          clear hb2 hb3
          refine hK _ _ (zy HP3.out) ?_
          clear hK K
          repeat (go_big_quiet_step (fail))
          refine wpQuiet_nil ?_
          intro K hK
          refine ze (by kernel_rfl) ?_
          refine kD 151 (.tmp 13) (.tmp 97) rfl wq.heap.size zeroA FA 151 rfl rfl HX2.out (by kernel_rfl) ?_
          intro w3 hb3 hg3
          have HP4:=Lib.hid (HP3.out.grown hg3 HP3.out.size (fun j hj=>by cases hj;exact HD.out.size))
          have HX3:=Lib.hid hb3
          clear hb3 hg3
          refine hK _ _ (zy HP4.out) ?_
          clear hK K
          simp only [Act.put]
          repeat (go_big_quiet_step (fail))
          refine wpQuiet_nil ?_
          have HBN:=Lib.hid (HB.out.trans (HP4.out.mono HB.out.size))
          obtain ⟨q0,q1,q2,q3,q4,q5⟩:=HX3.out.facts
          obtain ⟨SP,hSP⟩:∃ SP,specA FA kx=SP:=⟨_,rfl⟩
          have HSP:=Lib.hid hSP
          have HSC:=Lib.hid (fun W=>VR FA kx W)
          rw [hSP] at HSC
          clear hSP
          by_cases hi1:1 < i
          ·rw [if_pos hi1] at hkx
           subst hkx
           have hi1z:(1:Int) < (i:Int):=by omega
           go_wp2_with fail
           refine (HSC.out _).mono ?_
           rintro en w5 ⟨rfl,hb5⟩
           have HBM:=Lib.hid (HBN.out.trans (hb5.mono HBN.out.size))
           clear hb5 q0 q1 q2 q3 q4 q5
           cases SP with
           | false =>
             have HRF:Hid (R=15):=Lib.hid (by
              rw [←HR.out];unfold allD
              rw [if_neg HCU.out,if_neg (by rw [HA1.out];simp),if_neg (by rw [HA2.out];simp),if_neg (by rw [HHW.out];simp),if_pos (zX HX.out (by rw [HFA.out];exact HSP.out))])
             go_wp2
             go_ret
             exact ⟨by rw [HRF.out];rfl,HB1.out.trans (HBM.out.mono HB1.out.size)⟩
           | true =>
             have HSN:=Lib.hid (HSF.out.next HX.out (by rw [HFA.out];exact HSP.out))
             go_wp2
             go_roundw
             case rel=>exact ⟨i+1,by omega,by go_num,HBM,HSN⟩
             case measure=>simp [intOf];omega
          ·rw [if_neg hi1] at hkx
           subst hkx
           have hi1z:¬ (1:Int) < (i:Int):=by omega
           go_wp2_with fail
           refine (HSC.out _).mono ?_
           rintro en w5 ⟨rfl,hb5⟩
           have HBM:=Lib.hid (HBN.out.trans (hb5.mono HBN.out.size))
           clear hb5 q0 q1 q2 q3 q4 q5
           cases SP with
           | false =>
             have HRF:Hid (R=15):=Lib.hid (by
              rw [←HR.out];unfold allD
              rw [if_neg HCU.out,if_neg (by rw [HA1.out];simp),if_neg (by rw [HA2.out];simp),if_neg (by rw [HHW.out];simp),if_pos (zX HX.out (by rw [HFA.out];exact HSP.out))])
             go_wp2
             go_ret
             exact ⟨by rw [HRF.out];rfl,HB1.out.trans (HBM.out.mono HB1.out.size)⟩
           | true =>
             have HSN:=Lib.hid (HSF.out.next HX.out (by rw [HFA.out];exact HSP.out))
             go_wp2
             go_roundw
             case rel=>exact ⟨i+1,by omega,by go_num,HBM,HSN⟩
             case measure=>simp [intOf];omega
        ·have HA3:Hid ((codesD M).all (fun x=>specA (findV (findL M.chart x.1)) x.2)=true):=Lib.hid (HSF.out.done (by rw [HCN.out];omega))
         have HRF:Hid (R=0):=Lib.hid (by
          rw [←HR.out];unfold allD
          rw [if_neg HCU.out,if_neg (by rw [HA1.out];simp),if_neg (by rw [HA2.out];simp),if_neg (by rw [HHW.out];simp),if_neg (by rw [HA3.out];simp)])
         go_wp2
         go_ret
         exact ⟨by rw [HRF.out];rfl,HB1.out.trans (HB.out.mono HB1.out.size)⟩
end Go.Proofs.YtdhfpgjnjlcciaaGreatDoor.Un
end
section
namespace Go.Proofs.YtdhfpgjnjlcciaaGreatDoor
open Go.RowKit
theorem zbB:(Tryz.prog.info? 9).map (fun i=>(i.zero,i.size,i.bytes))=some (some (.string ⟨#[]⟩),1,16):=by kernel_rfl
theorem zgG (cur:List UInt8) (c:UInt8) (r:List UInt8) (h:gapB c=false):zg cur (c::r)=zg (cur++[c]) r:=by simp [zg,h]
theorem YN (cur:List UInt8) (c:UInt8) (r:List UInt8) (h:gapB c=true) (hc:cur≠[]):zg cur (c::r)=cur::zg [] r:=by simp [zg,h,hc]
theorem XB (c:UInt8) (r:List UInt8) (h:gapB c=true):zg [] (c::r)=zg [] r:=by simp [zg,h]
theorem QZ (s:ByteArray) (k:Nat) (h:k < s.size):s.data.toList.drop k=s[k]::s.data.toList.drop (k+1):=by
 have:s[k]=s.data.toList[k]'(by rw [zv];exact h):=by simp [ByteArray.getElem_eq_getElem_data]
 rw [this];exact List.drop_eq_getElem_cons _
theorem zfg (c:UInt8):gapB c=decide (c.toNat=9∨c.toNat=32):=by
 rw [←zas];unfold gapR;rw [Bool.eq_iff_iff];simp
theorem Y0 (t u:ByteArray):(t++u).data.toList=t.data.toList++u.data.toList:=by simp [ByteArray.data_append]
def Yu (w:World) (ws:List (List UInt8)) (e:Ending) (w':World):Prop :=
 ∃ v,e=.returned v∧w'.ownsRow w.heap.size 9 1 v (ws.map mkB).length ((ws.map mkB).map Value.string)∧Below w.heap.size w w'
def zfR (w:World) (l:List UInt8) (s3 s4 s5:Value) (wr:World):Prop :=
 ∃ (k:Nat) (t:ByteArray) (out:List (List UInt8)),k≤l.length∧s5=.int .i64 (k:Int)∧s4=.string t∧t.size≤k∧out.length≤k∧wr.ownsRow w.heap.size 9 1 s3 (out.map mkB).length ((out.map mkB).map Value.string) ∧
   wordsL l=out++zg t.data.toList (said (l.drop k))∧Below w.heap.size w wr
set_option maxRecDepth 100000 in
set_option maxHeartbeats 2000000 in
theorem Xr (s:ByteArray) (w:World) (hs:s.size≤30000) :
 Calls Tryz.prog 95 #[.string s] w (Yu w (wordsL s.data.toList)):=by
 obtain ⟨i0,hi,hz0,hz1,hz2⟩:=info_parts zbB
 have HI:=Lib.hid (And.intro hi (And.intro hz0 (And.intro hz1 hz2)))
 clear hi hz0 hz1 hz2
 have HSL:=Lib.hid (zv s)
 obtain ⟨WL,hWL⟩:∃ WL,wordsL s.data.toList=WL:=⟨_,rfl⟩
 rw [hWL]
 have HWL:=Lib.hid hWL
 clear hWL
 go_enter Tryz.func95,Tryz.ntmps95
 go_wp2
 go_loopw [3,4,5] (fun s3 s4 s5 wr=>zfR w s.data.toList s3 s4 s5 wr) (fun _ _ s5 _=>s.size - (intOf s5).toNat)
 case atStart=>exact ⟨0,⟨#[]⟩,[],Nat.zero_le _,rfl,rfl,Nat.le_refl _,Nat.le_refl _,World.ownsRow_nil _ _ _ _,rfl,Below.refl _ _⟩
 case round =>
  obtain ⟨k,t,out,hk,rfl,rfl,htk,hok,hown,hW,hnx⟩:=hrel
  rw [HSL.out] at hk
  have HW:=Lib.hid hW
  clear hW
  have hsz:=hnx.size
  by_cases hlt:k < s.size
  ·have hd:=QZ s k hlt
   have hcb:s[k].toNat < 256:=UInt8.toNat_lt _
   by_cases h35:s[k].toNat=35
   ·have h35b:((s[k].toNat:Int) != 35)=false:=by rw [bne_eq_false_iff_eq];omega
    have HSD:Hid (said (s.data.toList.drop k)=[]):=Lib.hid (by
     rw [hd,said,if_pos (UInt8.toNat_inj.1 h35)])
    clear hd h35
    by_cases hte:t.data.toList=[]
    ·obtain rfl:t=⟨#[]⟩:=by rw [←qJ t,hte];rfl
     have HN:Hid (WL=out):=Lib.hid (by rw [←HWL.out,HW.out,HSD.out];simp [zg])
     clear hte
     go_wp2
     go_ret
     exact ⟨_,rfl,by rw [HN.out];exact hown,hnx⟩
    ·have HN:Hid (WL=out++[t.data.toList]):=Lib.hid (by rw [←HWL.out,HW.out,HSD.out];simp [zg,hte])
     have ht1:(!t.toList.isEmpty)=true:=by
      rw [ByteArray.toList_eq]
      cases hh:t.data.toList with
      | nil=>exact absurd hh hte
      | cons x r=>rfl
     clear hte
     go_wp2_with (at_builtin;refine wpList_append_own _ rfl _ _ 105 rfl w.heap.size 9 i0 (.string ⟨#[]⟩) 1 16 Tryz.underlying105 HI.out.1 HI.out.2.1 HI.out.2.2.1 HI.out.2.2.2 rfl (by decide) _ _ _ rfl (hown.alloc _) ⟨wr.heap.size,0,none⟩ 1 1 [.string t] rfl rfl (cell_one_new _ _ _) (by intro u hu;simp at hu;subst hu;rfl) (by rw [List.length_map];unfold maxLen;omega) (by rw [List.length_map];omega) (by simp;omega) ?_;intro v' w1 hown' hgrow _)
     go_ret
     exact ⟨_,rfl,by rw [HN.out];rw [List.map_append,List.map_append,List.length_append];simpa [qJ] using hown',below_grown (hnx.alloc hsz _) (by simp;omega) (hown.alloc _) hgrow⟩
   ·have h35b:((s[k].toNat:Int) != 35)=true:=by rw [bne_iff_ne];omega
    have HSD:Hid (said (s.data.toList.drop k)=s[k]::said (s.data.toList.drop (k+1))):=Lib.hid (by
     rw [hd,said,if_neg (fun e=>h35 (by rw [e];rfl))])
    have hgd:=zfg s[k]
    clear hd
    by_cases h9:s[k].toNat=9
    ·have HG:Hid (gapB s[k]=true):=Lib.hid (by rw [hgd];exact decide_eq_true (.inl h9))
     have n9:((s[k].toNat:Int)==9)=true:=by rw [beq_iff_eq];omega
     clear hgd h9 h35
     by_cases hte:t.data.toList=[]
     ·obtain rfl:t=⟨#[]⟩:=by rw [←qJ t,hte];rfl
      have HN:Hid (WL=out++zg [] (said (s.data.toList.drop (k+1)))):=Lib.hid (by rw [←HWL.out,HW.out,HSD.out,show (ByteArray.mk #[]).data.toList=[] from rfl,XB _ _ HG.out])
      clear hte
      go_wp2
      go_roundw
      case rel=>exact ⟨k+1,⟨#[]⟩,out,by rw [HSL.out];omega,by go_num,rfl,Nat.zero_le _,by omega,hown,by rw [HWL.out];exact HN.out,hnx⟩
      case measure=>simp [intOf];omega
     ·have HN:Hid (WL=(out++[t.data.toList])++zg [] (said (s.data.toList.drop (k+1)))):=Lib.hid (by rw [←HWL.out,HW.out,HSD.out,YN _ _ _ HG.out hte];simp)
      have ht1:(!t.toList.isEmpty)=true:=by
       rw [ByteArray.toList_eq]
       cases hh:t.data.toList with
       | nil=>exact absurd hh hte
       | cons x r=>rfl
      clear hte
      go_wp2_with (at_builtin;refine wpList_append_own _ rfl _ _ 105 rfl w.heap.size 9 i0 (.string ⟨#[]⟩) 1 16 Tryz.underlying105 HI.out.1 HI.out.2.1 HI.out.2.2.1 HI.out.2.2.2 rfl (by decide) _ _ _ rfl (hown.alloc _) ⟨wr.heap.size,0,none⟩ 1 1 [.string t] rfl rfl (cell_one_new _ _ _) (by intro u hu;simp at hu;subst hu;rfl) (by rw [List.length_map];unfold maxLen;omega) (by rw [List.length_map];omega) (by simp;omega) ?_;intro v' w1 hown' hgrow _)
      go_roundw
      case rel=>exact ⟨k+1,⟨#[]⟩,out++[t.data.toList],by rw [HSL.out];omega,by go_num,rfl,Nat.zero_le _,by simp;omega,by rw [List.map_append,List.map_append,List.length_append];simpa [qJ] using hown',by rw [HWL.out];exact HN.out,below_grown (hnx.alloc hsz _) (by simp;omega) (hown.alloc _) hgrow⟩
      case measure=>simp [intOf];omega
    ·have n9:((s[k].toNat:Int)==9)=false:=by rw [beq_eq_false_iff_ne];omega
     by_cases h32:s[k].toNat=32
     ·have HG:Hid (gapB s[k]=true):=Lib.hid (by rw [hgd];exact decide_eq_true (.inr h32))
      have n32:((s[k].toNat:Int)==32)=true:=by rw [beq_iff_eq];omega
      clear hgd h9 h35 h32
      by_cases hte:t.data.toList=[]
      ·obtain rfl:t=⟨#[]⟩:=by rw [←qJ t,hte];rfl
       have HN:Hid (WL=out++zg [] (said (s.data.toList.drop (k+1)))):=Lib.hid (by rw [←HWL.out,HW.out,HSD.out,show (ByteArray.mk #[]).data.toList=[] from rfl,XB _ _ HG.out])
       clear hte
       go_wp2
       go_roundw
       case rel=>exact ⟨k+1,⟨#[]⟩,out,by rw [HSL.out];omega,by go_num,rfl,Nat.zero_le _,by omega,hown,by rw [HWL.out];exact HN.out,hnx⟩
       case measure=>simp [intOf];omega
      ·have HN:Hid (WL=(out++[t.data.toList])++zg [] (said (s.data.toList.drop (k+1)))):=Lib.hid (by rw [←HWL.out,HW.out,HSD.out,YN _ _ _ HG.out hte];simp)
       have ht1:(!t.toList.isEmpty)=true:=by
        rw [ByteArray.toList_eq]
        cases hh:t.data.toList with
        | nil=>exact absurd hh hte
        | cons x r=>rfl
       clear hte
       go_wp2_with (at_builtin;refine wpList_append_own _ rfl _ _ 105 rfl w.heap.size 9 i0 (.string ⟨#[]⟩) 1 16 Tryz.underlying105 HI.out.1 HI.out.2.1 HI.out.2.2.1 HI.out.2.2.2 rfl (by decide) _ _ _ rfl (hown.alloc _) ⟨wr.heap.size,0,none⟩ 1 1 [.string t] rfl rfl (cell_one_new _ _ _) (by intro u hu;simp at hu;subst hu;rfl) (by rw [List.length_map];unfold maxLen;omega) (by rw [List.length_map];omega) (by simp;omega) ?_;intro v' w1 hown' hgrow _)
       go_roundw
       case rel=>exact ⟨k+1,⟨#[]⟩,out++[t.data.toList],by rw [HSL.out];omega,by go_num,rfl,Nat.zero_le _,by simp;omega,by rw [List.map_append,List.map_append,List.length_append];simpa [qJ] using hown',by rw [HWL.out];exact HN.out,below_grown (hnx.alloc hsz _) (by simp;omega) (hown.alloc _) hgrow⟩
       case measure=>simp [intOf];omega
     ·have HG:Hid (gapB s[k]=false):=Lib.hid (by rw [hgd];exact decide_eq_false (by omega))
      have n32:((s[k].toNat:Int)==32)=false:=by rw [beq_eq_false_iff_ne];omega
      have HN:Hid (WL=out++zg (t.data.toList++[s[k]]) (said (s.data.toList.drop (k+1)))):=Lib.hid (by rw [←HWL.out,HW.out,HSD.out,zgG _ _ _ HG.out])
      obtain ⟨u,hu⟩:∃ u,s.extract k (k+1)=u:=⟨_,rfl⟩
      have hud:u.data.toList=[s[k]]:=by
       rw [←hu,Qd,qK,QZ s k hlt];simp
      have HUD:=Lib.hid hud
      have hus:u.size=1:=by rw [←zv,hud];rfl
      have HUS:=Lib.hid hus
      have z1:¬ 9223372036854775807 < t.size+u.size:=by omega
      have c1:(0:Int)≤↑k:=by omega
      have c2:(↑k:Int)+1≤↑s.size:=by omega
      clear hgd h9 h35 h32 hud hus
      go_wp2
      go_roundw
      case rel=>exact ⟨k+1,t++u,out,by rw [HSL.out];omega,by go_num,rfl,by rw [←zv,Y0,List.length_append,zv,zv,HUS.out];omega,by omega,hown,by rw [HWL.out,Y0,HUD.out];exact HN.out,hnx⟩
      case measure=>simp [intOf];omega
  ·have HSD:Hid (said (s.data.toList.drop k)=[]):=Lib.hid (by
    rw [List.drop_eq_nil_of_le (by rw [HSL.out];omega)];rfl)
   by_cases hte:t.data.toList=[]
   ·obtain rfl:t=⟨#[]⟩:=by rw [←qJ t,hte];rfl
    have HN:Hid (WL=out):=Lib.hid (by rw [←HWL.out,HW.out,HSD.out];simp [zg])
    clear hte
    go_wp2
    go_ret
    exact ⟨_,rfl,by rw [HN.out];exact hown,hnx⟩
   ·have HN:Hid (WL=out++[t.data.toList]):=Lib.hid (by rw [←HWL.out,HW.out,HSD.out];simp [zg,hte])
    have ht1:(!t.toList.isEmpty)=true:=by
     rw [ByteArray.toList_eq]
     cases hh:t.data.toList with
     | nil=>exact absurd hh hte
     | cons x r=>rfl
    clear hte
    go_wp2_with (at_builtin;refine wpList_append_own _ rfl _ _ 105 rfl w.heap.size 9 i0 (.string ⟨#[]⟩) 1 16 Tryz.underlying105 HI.out.1 HI.out.2.1 HI.out.2.2.1 HI.out.2.2.2 rfl (by decide) _ _ _ rfl (hown.alloc _) ⟨wr.heap.size,0,none⟩ 1 1 [.string t] rfl rfl (cell_one_new _ _ _) (by intro u hu;simp at hu;subst hu;rfl) (by rw [List.length_map];unfold maxLen;omega) (by rw [List.length_map];omega) (by simp;omega) ?_;intro v' w1 hown' hgrow _)
    go_ret
    exact ⟨_,rfl,by rw [HN.out];rw [List.map_append,List.map_append,List.length_append];simpa [qJ] using hown',below_grown (hnx.alloc hsz _) (by simp;omega) (hown.alloc _) hgrow⟩
end Go.Proofs.YtdhfpgjnjlcciaaGreatDoor
end
section
namespace Go.Proofs.YtdhfpgjnjlcciaaGreatDoor
open Go.RowKit
theorem zb5:(Tryz.prog.info? 144).map (fun i=>(i.zero,i.size,i.bytes))=some (some (.agg #[.int .i64 0,.slice none 0 0]),2,32):=by kernel_rfl
def zbj (w:World) (l:List UInt8) (s5 s6 s7 s8:Value) (wr:World):Prop :=
 ∃ (k f n:Nat) (LV:List (Int × Value)) (out:List (Nat × List (List UInt8))),s8=.int .i64 (k:Int)∧s7=.int .i64 (f:Int)∧s6=.int .i64 (n:Int)∧k≤l.length+1∧f≤l.length+1∧n≤k+1∧out.length≤k ∧
   (k≤l.length→f≤k∧linesL l=out++numP (enumL n (zn (pieceL l (f,k)) (l.drop k))))∧(k=l.length+1→linesL l=out) ∧
   wr.ownsRow w.heap.size 144 2 s5 LV.length (flatL LV)∧zP wr w.heap.size 9 LV (asB out)∧Below w.heap.size w wr
theorem Zn {W:World} {B:Nat} {e:TypeId} {s:Nat} {v:Value} {n:Nat} {xs:List Value} (h:W.ownsRow B e s v n xs):∃ a c,v=.slice a n c:=by
 rcases h.2 with ⟨rfl,rfl⟩ | ⟨g,cap,cur,rfl,_⟩
 ·exact ⟨_,_,rfl⟩
 ·exact ⟨_,_,rfl⟩
theorem zfP (n:Nat) (x:List UInt8) (r:List (Nat × List UInt8)):numP ((n,x)::r)=numP [(n,x)]++numP r:=by
 rw [←zgZ];rfl
theorem zjo (l:List UInt8) (a:Nat):pieceL l (a,a)=[]:=by simp [pieceL]
theorem zec (l out:List UInt8) (o:List (Nat × List (List UInt8))) (n f k:Nat) (h:linesL l=o++numP (enumL n (zn (pieceL l (f,k)) (l.drop k)))) (hk:l.drop k=10::out) (h1:l.drop (k+1)=out) :
 linesL l=(o++numP [(n,pieceL l (f,k))])++numP (enumL (n+1) (zn (pieceL l (k+1,k+1)) (l.drop (k+1)))):=by
 rw [h,hk,h1,zjo]
 simp only [zn,if_true,enumL]
 rw [zfP]
 simp
theorem ziu (l:List UInt8) (o:List (Nat × List (List UInt8))) (n f k:Nat) (h:linesL l=o++numP (enumL n (zn (pieceL l (f,k)) (l.drop k)))) (hk:l.drop k=[]) :
 linesL l=o++numP [(n,pieceL l (f,k))]:=by
 rw [h,hk];rfl
def jD (w:World) (L:List (Int × List ByteArray)) (c:Int) (e:Ending) (w':World):Prop :=
 ∃ v LV,e=.returned (.tuple #[v,.int .i64 c])∧w'.ownsRow w.heap.size 144 2 v LV.length (flatL LV)∧zP w' w.heap.size 9 LV L∧Below w.heap.size w w'
theorem jD.none (w W:World) (h:Below w.heap.size w W) (c:Int):jD w [] c (.returned (.tuple #[.slice none 0 0,.int .i64 c])) W :=
 ⟨_,[],rfl,World.ownsRow_nil _ _ _ _,zP.nil _ _ _,h⟩
theorem zgj (s:ByteArray) (w:World) (h:20000 < s.size) (hs:s.size≤30000) :
 Calls Tryz.prog 61 #[.string s] w (jD w [] 4):=by
 go_enter Tryz.func61,Tryz.ntmps61
 go_wp2
 go_ret2
 exact jD.none w w (Below.refl _ _) 4
set_option maxRecDepth 100000 in
set_option maxHeartbeats 4000000 in
theorem zeP (s:ByteArray) (w:World) (hs:s.size≤20000) :
 Calls Tryz.prog 61 #[.string s] w (jD w (asB (if okL s.data.toList then linesL s.data.toList else [])) (if okL s.data.toList then 0 else 5)):=by
 obtain ⟨RV,hRV⟩:∃ RV,asB (if okL s.data.toList then linesL s.data.toList else [])=RV:=⟨_,rfl⟩
 obtain ⟨RE,hRE⟩:∃ RE:Int,(if okL s.data.toList then (0:Int) else 5)=RE:=⟨_,rfl⟩
 rw [hRV,hRE]
 have HRV:=Lib.hid hRV
 have HRE:=Lib.hid hRE
 have HSL:=Lib.hid (zv s)
 clear hRV hRE
 have HBAD:Hid (okL s.data.toList=false→∀ W,jD W RV RE (.returned (.tuple #[.slice none 0 0,.int .i64 5])) W):=Lib.hid fun hno W=>by
  rw [←HRE.out,←HRV.out,hno]
  exact jD.none W W (Below.refl _ _) _
 have h1:¬ 20000 < s.size:=by omega
 obtain ⟨i0,hi,hz0,hz1,hz2⟩:=info_parts zb5
 have HI:=Lib.hid (And.intro hi (And.intro hz0 (And.intro hz1 hz2)))
 clear hi hz0 hz1 hz2
 go_enter Tryz.func61,Tryz.ntmps61
 go_wp2
 go_loop [4] (fun i=>∃ k:Nat,k≤s.size∧i=.int .i64 k∧(s.data.toList.take k).all okB=true) (fun i=>s.size - (intOf i).toNat)
 case atStart=>exact ⟨0,Nat.zero_le _,rfl,rfl⟩
 case round =>
  obtain ⟨k,hk,rfl,hd⟩:=hrel
  have HD:=Lib.hid hd
  clear hd
  by_cases hlt:k < s.size
  ·have HO:=Lib.hid (JL s[k])
   have hb:s[k].toNat < 256:=UInt8.toNat_lt _
   go_wp2
   all_goals first
    | (go_ret2
       exact HBAD.out (zX okB s k hlt (by rw [HO.out];exact decide_eq_false (by omega))) _)
    | (go_round
       case rel=>exact ⟨k+1,by omega,by go_num,by rw [xD okB s k hlt,HD.out,HO.out];exact decide_eq_true (by first | omega | (simp only [bne_eq_false_iff_eq] at *;omega))⟩
       case measure=>simp [intOf];omega)
  ·have hok:okL s.data.toList=true:=xS okB s k hlt hk HD.out
   have HRV':Hid (asB (linesL s.data.toList)=RV):=Lib.hid (by rw [←HRV.out,hok];rfl)
   have HRE':Hid (RE=0):=Lib.hid (by rw [←HRE.out,hok];rfl)
   clear hok
   go_wp2
   go_loopw [5,6,7,8] (fun s5 s6 s7 s8 wr=>zbj w s.data.toList s5 s6 s7 s8 wr) (fun _ _ _ s8 _=>s.size+1 - (intOf s8).toNat)
   case atStart=>exact ⟨0,0,1,[],[],rfl,rfl,rfl,by omega,by omega,by omega,Nat.le_refl _,fun _=>⟨Nat.le_refl _,rfl⟩,fun h=>by omega,World.ownsRow_nil _ _ _ _,zP.nil _ _ _,Below.refl _ _⟩
   case round =>
    obtain ⟨k2,f,n,LV,out,rfl,rfl,rfl,hk2,hf2,hn2,hol,hgo,hend,hown,hw,hnx⟩:=hrel
    rw [HSL.out] at hk2 hf2 hgo hend
    have hlv:LV.length≤k2:=by rw [hw.1,vH];exact hol
    have HGO:=Lib.hid hgo
    have HEN:=Lib.hid hend
    have HOW:=Lib.hid hown
    have HWW:=Lib.hid hw
    have HNX:=Lib.hid hnx
    clear hgo hend hown hw hnx
    by_cases hlast:k2≤s.size
    ·obtain ⟨hfk,hL⟩:=HGO.out hlast
     have HL:=Lib.hid hL
     clear hL
     by_cases hke:k2=s.size
     ·have hdr:s.data.toList.drop k2=[]:=List.drop_eq_nil_of_le (by rw [HSL.out];omega)
      obtain ⟨P,hP⟩:∃ P,pieceL s.data.toList (f,k2)=P:=⟨_,rfl⟩
      have hPx:(s.extract f k2).data.toList=P:=by rw [Qd,qK,←hP];rfl
      obtain ⟨x,hx⟩:∃ x,s.extract f k2=x:=⟨_,rfl⟩
      rw [hx] at hPx
      have hxs:x.size≤30000:=by rw [←zv,hPx,←hP];unfold pieceL;rw [List.length_take,List.length_drop,HSL.out];omega
      have HRW:Hid (∀ W,Calls Tryz.prog 95 #[.string x] W (Yu W (wordsL P))):=Lib.hid fun W=>by
       have:=Xr x W hxs
       rwa [hPx] at this
      have c1:(0:Int)≤↑f:=by omega
      have c2:(↑f:Int)≤↑k2:=by omega
      have c3:(↑k2:Int)≤↑s.size:=by omega
      have HNEW:Hid (linesL s.data.toList=out++numP [(n,P)]):=Lib.hid (by rw [←hP];exact ziu _ _ _ _ _ HL.out hdr)
      have hkb:((k2:Int)==(s.size:Int))=true:=by rw [beq_iff_eq];omega
      have HKE:=Lib.hid hke
      clear hdr hP hPx hke
      by_cases hpw:wordsL P=[]
      ·have HP1:Hid (numP [(n,P)]=[]):=Lib.hid (by simp [numP,hpw])
       have HPW:Hid (wordsL P=[]):=Lib.hid hpw
       clear hpw
       go_wp2_with fail
       refine (HRW.out _).mono ?_
       rintro e w2 ⟨v,rfl,ho,hb⟩
       obtain ⟨av,cv,rfl⟩:=Zn ho
       rw [HPW.out]
       simp only [List.map_nil,List.length_nil]
       have HO2:=Lib.hid (zu HOW.out hb)
       have HW2:=Lib.hid (HWW.out.mono fun u m xs hu=>zu hu hb)
       have HN2:=Lib.hid (HNX.out.trans (hb.mono HNX.out.size))
       clear ho hb
       go_wp2
       go_roundw
       case rel=>exact ⟨k2+1,k2+1,n+1,LV,out++numP [(n,P)],by go_num,by go_num,by go_num,by rw [HSL.out];omega,by rw [HSL.out];omega,by omega,by rw [HP1.out,List.append_nil];omega,(fun h=>by rw [HSL.out] at h;have:=HKE.out;omega),fun _=>HNEW.out,HO2.out,by rw [HP1.out,List.append_nil];exact HW2.out,HN2.out⟩
       case measure=>simp [intOf];omega
      ·have HP1:Hid (numP [(n,P)]=[(n,wordsL P)]):=Lib.hid (by simp [numP,hpw])
       have hpl:0 < ((wordsL P).map mkB).length:=by rw [List.length_map];exact List.length_pos_iff.2 hpw
       obtain ⟨ws,hws⟩:∃ ws,(wordsL P).map mkB=ws:=⟨_,rfl⟩
       have HWS:=Lib.hid hws
       rw [hws] at hpl
       clear hpw hws
       go_wp2_with fail
       refine (HRW.out _).mono ?_
       rintro e w2 ⟨v,rfl,ho,hb⟩
       rw [HWS.out] at ho
       obtain ⟨av,cv,rfl⟩:=Zn ho
       have hrow1:=zu HOW.out hb
       have HW2:=Lib.hid (HWW.out.mono fun u m xs hu=>zu hu hb)
       have HN2:=Lib.hid (HNX.out.trans (hb.mono HNX.out.size))
       have hsz2:w.heap.size≤w2.heap.size:=HN2.out.size
       have HO9:=Lib.hid (zw ho HNX.out.size)
       have HR1:=Lib.hid hrow1
       clear ho hb hrow1
       go_wp2_with (at_builtin;refine wpList_append_own _ rfl _ _ 140 rfl w.heap.size 144 i0 (.agg #[.int .i64 0,.slice none 0 0]) 2 32 Tryz.underlying140 HI.out.1 HI.out.2.1 HI.out.2.2.1 HI.out.2.2.2 rfl (by decide) _ _ _ rfl (HR1.out.alloc _) ⟨w2.heap.size,0,none⟩ 1 1 [.int .i64 (n:Int),.slice av ws.length cv] rfl rfl (cell_two_new' _ _ _ _) (by intro u hu;simp at hu;rcases hu with rfl | rfl <;> rfl) (by unfold maxLen;omega) (by omega) (by simp;omega) ?_;intro v' w3 hown' hgrow _)
       have hK9:∀ (u:Value) (m:Nat) (xs:List Value),w2.ownsRow w.heap.size 9 1 u m xs→w3.ownsRow w.heap.size 9 1 u m xs:=fun u m xs hu =>
        (hu.alloc (.cells #[.int .i64 (n:Int),.slice av ws.length cv] 144)).kept hgrow (jy HR1.out hu (by decide))
       have HWF:Hid (zP w3 w.heap.size 9 (LV++[((n:Int),.slice av ws.length cv)]) (asB (out++numP [(n,P)]))):=Lib.hid (by
        rw [HP1.out,Yy]
        have:asB [(n,wordsL P)]=[((n:Int),ws)]:=by simp [asB,HWS.out]
        rw [this]
        exact (HW2.out.mono hK9).snoc _ _ _ (hK9 _ _ _ HO9.out))
       have HOF:Hid (w3.ownsRow w.heap.size 144 2 v' (LV++[((n:Int),Value.slice av ws.length cv)]).length (flatL (LV++[((n:Int),Value.slice av ws.length cv)]))):=Lib.hid (by
        rw [JV,List.length_append];exact hown')
       have HBF:=Lib.hid (below_grown (HN2.out.alloc hsz2 _) (by simp;omega) (HR1.out.alloc _) hgrow)
       clear hK9 hown' hgrow
       go_roundw
       case rel=>exact ⟨k2+1,k2+1,n+1,_,out++numP [(n,P)],by go_num,by go_num,by go_num,by rw [HSL.out];omega,by rw [HSL.out];omega,by omega,by rw [HP1.out];simp;omega,(fun h=>by rw [HSL.out] at h;have:=HKE.out;omega),fun _=>HNEW.out,HOF.out,HWF.out,HBF.out⟩
       case measure=>simp [intOf];omega
     ·have hkl:k2 < s.size:=by omega
      have hkb:((k2:Int)==(s.size:Int))=false:=by rw [beq_eq_false_iff_ne];omega
      have hdr:=QZ s k2 hkl
      by_cases h10:s[k2].toNat=10
      ·have hc10:s[k2]=10:=UInt8.toNat_inj.1 h10
       rw [hc10] at hdr
       obtain ⟨P,hP⟩:∃ P,pieceL s.data.toList (f,k2)=P:=⟨_,rfl⟩
       have hPx:(s.extract f k2).data.toList=P:=by rw [Qd,qK,←hP];rfl
       obtain ⟨x,hx⟩:∃ x,s.extract f k2=x:=⟨_,rfl⟩
       rw [hx] at hPx
       have hxs:x.size≤30000:=by rw [←zv,hPx,←hP];unfold pieceL;rw [List.length_take,List.length_drop,HSL.out];omega
       have HRW:Hid (∀ W,Calls Tryz.prog 95 #[.string x] W (Yu W (wordsL P))):=Lib.hid fun W=>by
        have:=Xr x W hxs
        rwa [hPx] at this
       have c1:(0:Int)≤↑f:=by omega
       have c2:(↑f:Int)≤↑k2:=by omega
       have c3:(↑k2:Int)≤↑s.size:=by omega
       have HNEW:Hid (linesL s.data.toList=(out++numP [(n,P)])++numP (enumL (n+1) (zn (pieceL s.data.toList (k2+1,k2+1)) (s.data.toList.drop (k2+1))))):=Lib.hid (by rw [←hP];exact zec _ _ _ _ _ _ HL.out hdr rfl)
       have hb10:((s[k2].toNat:Int)==10)=true:=by rw [beq_iff_eq];omega
       clear hdr hP hPx hke h10 hc10
       by_cases hpw:wordsL P=[]
       ·have HP1:Hid (numP [(n,P)]=[]):=Lib.hid (by simp [numP,hpw])
        have HPW:Hid (wordsL P=[]):=Lib.hid hpw
        clear hpw
        go_wp2_with fail
        refine (HRW.out _).mono ?_
        rintro e w2 ⟨v,rfl,ho,hb⟩
        obtain ⟨av,cv,rfl⟩:=Zn ho
        rw [HPW.out]
        simp only [List.map_nil,List.length_nil]
        have HO2:=Lib.hid (zu HOW.out hb)
        have HW2:=Lib.hid (HWW.out.mono fun u m xs hu=>zu hu hb)
        have HN2:=Lib.hid (HNX.out.trans (hb.mono HNX.out.size))
        clear ho hb
        go_wp2
        go_roundw
        case rel=>exact ⟨k2+1,k2+1,n+1,LV,out++numP [(n,P)],by go_num,by go_num,by go_num,by rw [HSL.out];omega,by rw [HSL.out];omega,by omega,by rw [HP1.out,List.append_nil];omega,fun _=>⟨Nat.le_refl _,HNEW.out⟩,(fun h=>by rw [HSL.out] at h;omega),HO2.out,by rw [HP1.out,List.append_nil];exact HW2.out,HN2.out⟩
        case measure=>simp [intOf];omega
       ·have HP1:Hid (numP [(n,P)]=[(n,wordsL P)]):=Lib.hid (by simp [numP,hpw])
        have hpl:0 < ((wordsL P).map mkB).length:=by rw [List.length_map];exact List.length_pos_iff.2 hpw
        obtain ⟨ws,hws⟩:∃ ws,(wordsL P).map mkB=ws:=⟨_,rfl⟩
        have HWS:=Lib.hid hws
        rw [hws] at hpl
        clear hpw hws
        go_wp2_with fail
        refine (HRW.out _).mono ?_
        rintro e w2 ⟨v,rfl,ho,hb⟩
        rw [HWS.out] at ho
        obtain ⟨av,cv,rfl⟩:=Zn ho
        have hrow1:=zu HOW.out hb
        have HW2:=Lib.hid (HWW.out.mono fun u m xs hu=>zu hu hb)
        have HN2:=Lib.hid (HNX.out.trans (hb.mono HNX.out.size))
        have hsz2:w.heap.size≤w2.heap.size:=HN2.out.size
        have HO9:=Lib.hid (zw ho HNX.out.size)
        have HR1:=Lib.hid hrow1
        clear ho hb hrow1
        go_wp2_with (at_builtin;refine wpList_append_own _ rfl _ _ 140 rfl w.heap.size 144 i0 (.agg #[.int .i64 0,.slice none 0 0]) 2 32 Tryz.underlying140 HI.out.1 HI.out.2.1 HI.out.2.2.1 HI.out.2.2.2 rfl (by decide) _ _ _ rfl (HR1.out.alloc _) ⟨w2.heap.size,0,none⟩ 1 1 [.int .i64 (n:Int),.slice av ws.length cv] rfl rfl (cell_two_new' _ _ _ _) (by intro u hu;simp at hu;rcases hu with rfl | rfl <;> rfl) (by unfold maxLen;omega) (by omega) (by simp;omega) ?_;intro v' w3 hown' hgrow _)
        have hK9:∀ (u:Value) (m:Nat) (xs:List Value),w2.ownsRow w.heap.size 9 1 u m xs→w3.ownsRow w.heap.size 9 1 u m xs:=fun u m xs hu =>
         (hu.alloc (.cells #[.int .i64 (n:Int),.slice av ws.length cv] 144)).kept hgrow (jy HR1.out hu (by decide))
        have HWF:Hid (zP w3 w.heap.size 9 (LV++[((n:Int),.slice av ws.length cv)]) (asB (out++numP [(n,P)]))):=Lib.hid (by
         rw [HP1.out,Yy]
         have:asB [(n,wordsL P)]=[((n:Int),ws)]:=by simp [asB,HWS.out]
         rw [this]
         exact (HW2.out.mono hK9).snoc _ _ _ (hK9 _ _ _ HO9.out))
        have HOF:Hid (w3.ownsRow w.heap.size 144 2 v' (LV++[((n:Int),Value.slice av ws.length cv)]).length (flatL (LV++[((n:Int),Value.slice av ws.length cv)]))):=Lib.hid (by
         rw [JV,List.length_append];exact hown')
        have HBF:=Lib.hid (below_grown (HN2.out.alloc hsz2 _) (by simp;omega) (HR1.out.alloc _) hgrow)
        clear hK9 hown' hgrow
        go_roundw
        case rel=>exact ⟨k2+1,k2+1,n+1,_,out++numP [(n,P)],by go_num,by go_num,by go_num,by rw [HSL.out];omega,by rw [HSL.out];omega,by omega,by rw [HP1.out];simp;omega,fun _=>⟨Nat.le_refl _,HNEW.out⟩,(fun h=>by rw [HSL.out] at h;omega),HOF.out,HWF.out,HBF.out⟩
        case measure=>simp [intOf];omega
      ·have HNEW:Hid (linesL s.data.toList=out++numP (enumL n (zn (pieceL s.data.toList (f,k2+1)) (s.data.toList.drop (k2+1))))):=Lib.hid (by
        rw [HL.out,hdr]
        have hc:s[k2]≠10:=fun e=>h10 (by rw [e];rfl)
        have hpc:pieceL s.data.toList (f,k2)++[s[k2]]=pieceL s.data.toList (f,k2+1):=by
         have:=Qz s.data.toList f k2 hfk (by rw [HSL.out];exact hkl)
         rw [←this];rfl
        simp only [zn,if_neg hc]
        rw [hpc])
       have hb10:((s[k2].toNat:Int)==10)=false:=by rw [beq_eq_false_iff_ne];omega
       clear hdr hke h10
       go_wp2
       go_roundw
       case rel=>exact ⟨k2+1,f,n,LV,out,by go_num,rfl,rfl,by rw [HSL.out];omega,by rw [HSL.out];omega,by omega,by omega,fun _=>⟨by omega,HNEW.out⟩,(fun h=>by rw [HSL.out] at h;omega),HOW.out,HWW.out,HNX.out⟩
       case measure=>simp [intOf];omega
    ·have hke:k2=s.size+1:=by omega
     have HFIN:Hid (zP wr w.heap.size 9 LV RV):=Lib.hid (by
      rw [←HRV'.out,HEN.out hke]
      exact HWW.out)
     clear hke
     go_wp2
     go_ret2
     exact ⟨_,LV,by rw [HRE'.out];rfl,HOW.out,HFIN.out,HNX.out⟩
theorem zbJ (s:ByteArray) (w:World) (hs:s.size≤30000) :
 Calls Tryz.prog 61 #[.string s] w (jD w (asB (linV s.data.toList)) (linE s.data.toList)):=by
 have hl:=zv s
 by_cases h:20000 < s.size
 ·obtain ⟨e1,e2⟩:=KD s.data.toList (by omega)
  rw [e1,e2]
  exact zgj s w h hs
 ·have h1:=zeP s w (by omega)
  cases ho:okL s.data.toList with
  | false =>
    obtain ⟨e1,e2⟩:=Vk s.data.toList (by omega) ho
    rw [e1,e2]
    rwa [ho] at h1
  | true =>
    obtain ⟨e1,e2⟩:=XX s.data.toList (by omega) ho
    rw [e1,e2]
    rwa [ho] at h1
end Go.Proofs.YtdhfpgjnjlcciaaGreatDoor
end
section
namespace Go.Proofs.YtdhfpgjnjlcciaaGreatDoor.Un
open Go.RowKit
def HadAt (W:World) (B Bw:Nat) (v:Value) (L:List (Int × List ByteArray)):Prop :=
 ∃ LV,W.ownsRow B 144 2 v LV.length (flatL LV)∧zP W Bw 9 LV L
theorem HadAt.lines {W:World} {B Bw:Nat} {v:Value} {L:List (Int × List ByteArray)} (h:HadAt W B Bw v L):LinesV W v L:=by
 obtain ⟨LV,h1,h2⟩:=h
 exact zaf h1 h2.isIn
theorem zde {w:World} {L:List (Int × List ByteArray)} {c:Int} {e:Ending} {w':World} (h:jD w L c e w'):∃ v,e=.returned (.tuple #[v,.int .i64 c])∧HadAt w' w.heap.size w.heap.size v L∧Below w.heap.size w w':=by
 obtain ⟨v,LV,he,h1,h2,hb⟩:=h
 exact ⟨v,he,⟨LV,h1,h2⟩,hb⟩
theorem JA {l:List (List ByteArray)} {ws:List ByteArray} (h:ws∈l):szW ws≤szL l:=by
 induction l with
 | nil=>cases h
 | cons a l ih =>
   have:szL (a::l)=szW a+szL l:=rfl
   rw [this]
   rcases List.mem_cons.1 h with rfl | h
   ·omega
   ·have:=ih h;omega
end Go.Proofs.YtdhfpgjnjlcciaaGreatDoor.Un
end
