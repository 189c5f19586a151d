/- LinDoc ChartDocFind UnitOurs -/
import Derived.Test.YtdhfpgjnjlcciaaGreatDoorQ06
section
namespace Go.Proofs.YtdhfpgjnjlcciaaGreatDoor.Un
open Go.RowKit
set_option maxRecDepth 100000 in
set_option maxHeartbeats 4000000 in
theorem Xu (x y:Lin) (w:World) :
 Calls Tryz.prog 182 #[aggN x,aggN y] w fun en w'=>en=.returned (.bool (G.ltP x.key y.key))∧Below w.heap.size w w':=by
 have HB:=Lib.hid (((Below.refl w.heap.size w).alloc (Nat.le_refl _) (.cells (encL.cs x).toArray 195)).alloc (by simp) (.cells (encL.cs y).toArray 195))
 obtain ⟨R,hR⟩:∃ R,G.ltP x.key y.key=R:=⟨_,rfl⟩
 rw [hR]
 have hRR:R=(ltS x.acc y.acc || (decide (x.acc=y.acc) && ltS x.flow y.flow)):=hR.symm
 have HR:=Lib.hid hRR
 clear hR hRR
 cases h1:ltS x.acc y.acc with
 | true =>
   have HRS:Hid (R=true):=Lib.hid (by rw [HR.out,h1];rfl)
   unfold ltS at h1
   go_enter Tryz.func182,Tryz.ntmps182
   go_wp2
   go_ret
   exact ⟨zk HRS.out.symm,HB.out⟩
 | false =>
   cases h2:(x.acc.toList==y.acc.toList) with
   | false =>
     have HRS:Hid (R=false):=Lib.hid (by rw [HR.out,h1,decide_eq_false ((Lib.bytes_beq_false_iff x.acc y.acc).1 h2)];rfl)
     unfold ltS at h1
     go_enter Tryz.func182,Tryz.ntmps182
     go_wp2
     go_ret
     exact ⟨zk HRS.out.symm,HB.out⟩
   | true =>
     cases h3:ltS x.flow y.flow with
     | true =>
       have HRS:Hid (R=true):=Lib.hid (by rw [HR.out,h1,decide_eq_true ((Lib.bytes_beq_iff x.acc y.acc).1 h2),h3];rfl)
       unfold ltS at h1 h3
       go_enter Tryz.func182,Tryz.ntmps182
       go_wp2
       go_ret
       exact ⟨zk HRS.out.symm,HB.out⟩
     | false =>
       have HRS:Hid (R=false):=Lib.hid (by rw [HR.out,h1,decide_eq_true ((Lib.bytes_beq_iff x.acc y.acc).1 h2),h3];rfl)
       unfold ltS at h1 h3
       go_enter Tryz.func182,Tryz.ntmps182
       go_wp2
       go_ret
       exact ⟨zk HRS.out.symm,HB.out⟩
theorem zf2:InfoE Tryz.prog 37 195 encL :=
 InfoE.of (z:=.agg #[.string ⟨#[]⟩,.string ⟨#[]⟩,.string ⟨#[]⟩]) (n:=48) Tryz.underlying37 (by kernel_rfl) (by kernel_rfl) (by decide)
theorem InsAt.keep {α κ:Type} [G.KeyO κ] {E:Enc α} {key:α→κ} {e:TypeId} {W0 wr w':World} {L:List α} {x:α} {i:Nat} {s6:Value} (h:InsAt E key e W0 wr L x i s6) (hb:Below wr.heap.size wr w'):InsAt E key e W0 w' L x i s6:=⟨zu h.own hb,h.bel.trans (hb.mono h.bel.size),h.no⟩
theorem zgJ {L:List Lin} {x y:Lin} {i:Nat} (hy:L[i]?=some y) (he:y.key=x.key):linEr L x=7:=by
 unfold linEr
 rw [if_pos]
 have hm:=List.mem_of_getElem? hy
 cases hf:G.findK Lin.key L x.key with
 | some z=>rfl
 | none=>exact absurd he (G.qH hf y hm)
theorem ziO {L:List Lin} {x:Lin} (h:∀ (j:Nat) (y:Lin),L[j]?=some y→y.key≠x.key):linEr L x=if 1000≤L.length then 4 else 0:=by
 unfold linEr
 rw [if_neg]
 rw [G.qx (fun y hy e=>by
  obtain ⟨j,hj,rfl⟩:=List.getElem_of_mem hy
  exact h j _ (List.getElem?_eq_getElem hj) e)]
 simp
set_option maxRecDepth 100000 in
set_option maxHeartbeats 8000000 in
theorem zfJ (v:Value) (L:List Lin) (x:Lin) (w:World) (h:ElsV encL w v L) (hL:L.length≤1000) :
 Calls Tryz.prog 142 #[v,aggN x] w (ZP encL w v (G.insR Lin.key L x) (linEr L x)):=by
 have hB0:=(Below.refl w.heap.size w).alloc (Nat.le_refl _) (.cells #[.string x.acc,.string x.flow,.string x.goal] 195)
 have hX0:=BoxE.new encL w x 195
 have hV0:=h.keep hB0
 have hS0:(w.alloc (.cells #[.string x.acc,.string x.flow,.string x.goal] 195)).heap.size=w.heap.size+1:=World.size_alloc ..
 obtain ⟨W0,hW0⟩:∃ W0,w.alloc (.cells #[.string x.acc,.string x.flow,.string x.goal] 195)=W0:=⟨_,rfl⟩
 have hX0':BoxE encL W0 w.heap.size 195 x:=by rw [←hW0];exact hX0
 rw [hW0] at hB0 hV0 hS0
 have HB0:=Lib.hid hB0
 have HX0:=Lib.hid hX0'
 have HV0:=Lib.hid hV0
 have HS0:=Lib.hid hS0
 obtain ⟨p,c,e,hcap,hm,_,hc⟩:=hV0
 subst e
 obtain ⟨n,hn⟩:∃ n,L.length=n:=⟨_,rfl⟩
 rw [hn] at hcap hL HV0 ⊢
 obtain ⟨N,hN⟩:∃ N,linEr L x=N:=⟨_,rfl⟩
 rw [hN]
 have HC:=Lib.hid hc
 have HN:=Lib.hid hn
 have HE:=Lib.hid hN
 have HI:=Lib.hid zf2
 unfold maxLen at hm
 have HST:Hid (InsAt encL Lin.key 195 W0 W0 L x 0 (.slice none 0 0)):=Lib.hid ⟨World.ownsRow_nil _ _ _ _,Below.refl _ _,fun j y hj=>absurd hj (Nat.not_lt_zero _)⟩
 clear h hB0 hX0 hX0' hS0 hc hn hN
 go_enter Tryz.func142,Tryz.ntmps142
 go_wp2
 clear hW0
 go_loopw [6,7,8] (fun s6 s7 s8 wr=>∃ (i:Nat) (v6:Value),i≤n∧s8=.int .i64 (i:Int)∧v6=s6∧s7=.bool (G.doneR Lin.key (L.take i) x)∧Hid (InsAt encL Lin.key 195 W0 wr L x i v6)) (fun _ _ s8 _=>n - (intOf s8).toNat)
 case atStart=>exact ⟨0,_,Nat.zero_le _,rfl,rfl,rfl,HST⟩
 case round =>
  obtain ⟨i,v6,hi,rfl,rfl,rfl,HA⟩:=hrel
  by_cases hlt:i < n
  ·obtain ⟨y,hy⟩:∃ y,L[i]?=some y:=⟨_,List.getElem?_eq_getElem (by rw [HN.out];exact hlt)⟩
   obtain ⟨b,o,rfl,hat⟩:=HC.out i y hy
   obtain ⟨d0,d1,d2⟩:=lin3 (hat.keep HA.out.bel hat.lt)
   obtain ⟨q0,q1,q2⟩:=lin3 ((HX0.out.keep HA.out.bel HX0.out.lt).at0)
   have HY:=Lib.hid hy
   have HAT:=Lib.hid hat
   have HTK:Hid (L.take (i+1)=L.take i++[y]):=Lib.hid (by rw [List.take_succ_eq_append_getElem (by rw [HN.out];exact hlt),(List.getElem?_eq_some_iff.1 hy).2])
   obtain ⟨D,hD⟩:∃ D,G.doneR Lin.key (L.take i) x=D:=⟨_,rfl⟩
   have HD:=Lib.hid hD
   rw [hD]
   clear hy hat hD
   by_cases hyk:y.key=x.key
   ·have HYE:=Lib.hid hyk
    have HRS:Hid (N=7):=Lib.hid (by rw [←HE.out];exact zgJ HY.out HYE.out)
    have h1:(y.acc.toList==x.acc.toList)=true:=(Lib.bytes_beq_iff y.acc x.acc).2 (Prod.mk.inj hyk).1
    have h2:(y.flow.toList==x.flow.toList)=true:=(Lib.bytes_beq_iff y.flow x.flow).2 (Prod.mk.inj hyk).2
    clear hyk
    go_wp2_with fail
    go_big_quiet (fail)
    clear d0 d1 d2 q0 q1 q2 h1 h2
    go_wp2
    go_ret2
    have HQ:=HA.out.drewN nq
    rw [HRS.out]
    exact ⟨_,rfl,fun _=>rfl,fun h=>absurd h (by decide),HB0.out.trans (HQ.bel.mono HB0.out.size)⟩
   ·have HYE:=Lib.hid hyk
    have HWQ:Hid (∀ wq,(∃ q,wq=wr.drewN q)→InsAt encL Lin.key 195 W0 wq L x i v6):=Lib.hid (fun wq ⟨q,e⟩=>by rw [e];exact HA.out.drewN q)
    cases h1:(y.acc.toList==x.acc.toList) with
    | false =>
      clear hyk
      go_wp2_with fail
      go_big_quiet (fail)
      clear h1
      have HA1:=Lib.hid (HA.out.drewN nq)
      clear d0 d1 d2 q0 q1 q2 HA HWQ
      generalize wr.drewN nq=wq at *
      obtain ⟨d0,d1,d2⟩:=lin3 (HAT.out.keep HA1.out.bel HAT.out.lt)
      obtain ⟨q0,q1,q2⟩:=lin3 ((HX0.out.keep HA1.out.bel HX0.out.lt).at0)
      cases D with
      | true =>
        go_wp2_with fail
        go_big_quiet (fail)
        have HA2:=Lib.hid (HA1.out.drewN nq)
        clear d0 d1 d2 q0 q1 q2 HA1
        generalize wq.drewN nq=w2 at *
        obtain ⟨d0,d1,d2⟩:=lin3 (HAT.out.keep HA2.out.bel HAT.out.lt)
        obtain ⟨q0,q1,q2⟩:=lin3 ((HX0.out.keep HA2.out.bel HX0.out.lt).at0)
        have HB3:=Lib.hid ((Below.refl w2.heap.size w2).alloc (Nat.le_refl _) (.cells (encL.cs y).toArray 195))
        go_wp2_with (at_builtin;refine zx (E:=encL) rfl _ _ 37 195 rfl HI.out W0.heap.size _ y w2.heap.size (HA2.out.own.alloc _) rfl (zf encL w2 y _) (by have:=HA2.out.bel.size;simp;omega) (zZ HN.out hL) ?_;intro v9 w9 hr9 hb9 hg9)
        have HA9:Hid (InsAt encL Lin.key 195 W0 w9 L x (i+1) v9):=Lib.hid ⟨by rw [HTK.out,G.kg y HD.out];exact hr9,(HA2.out.bel.trans (HB3.out.mono HA2.out.bel.size)).trans hb9,zU HA2.out.no HY.out HYE.out⟩
        have HD9:Hid (G.doneR Lin.key (L.take (i+1)) x=true):=Lib.hid (by rw [HTK.out,G.zO,HD.out];first | rfl | (rw [HLT.out];rfl))
        clear hr9 hb9 hg9 d0 d1 d2 q0 q1 q2
        go_wp2
        go_roundw
        case rel=>exact ⟨i+1,_,by omega,by go_num,rfl,by rw [HD9.out],HA9⟩
        case measure=>simp [intOf];omega
      | false =>
        have HAG:=Lib.hid (Xu x y)
        cases hlx:G.ltP x.key y.key with
        | true =>
          have HLT:Hid (G.KeyO.lt (Lin.key x) (Lin.key y)=true):=Lib.hid hlx
          rw [hlx] at HAG
          clear hlx
          have r0:=fun p:Past wq=>za d0 p
          have r1:=fun p:Past wq=>za d1 p
          have r2:=fun p:Past wq=>za d2 p
          have s0:=fun p:Past wq=>za q0 p
          have s1:=fun p:Past wq=>za q1 p
          have s2:=fun p:Past wq=>za q2 p
          clear d0 d1 d2 q0 q1 q2
          go_wp2_with fail
          refine zS (by kernel_rfl) (by kernel_rfl) ?_
          repeat (go_big_quiet_step ((go_at_call 182;exact Calls.qi (HAG.out _))))
          refine wpQuiet_nil ?_
          intro w2 hw'
          obtain ⟨⟨w2',hb2⟩,rfl⟩:=hw'
          have HA2:=Lib.hid (HA1.out.keep hb2)
          clear r0 r1 r2 s0 s1 s2 HA1 hb2
          obtain ⟨d0,d1,d2⟩:=lin3 (HAT.out.keep HA2.out.bel HAT.out.lt)
          obtain ⟨q0,q1,q2⟩:=lin3 ((HX0.out.keep HA2.out.bel HX0.out.lt).at0)
          have HB3:=Lib.hid ((Below.refl w2.heap.size w2).alloc (Nat.le_refl _) (.cells (encL.cs x).toArray 195))
          go_wp2_with (at_builtin;first
           | (refine zx (E:=encL) rfl _ _ 37 195 rfl HI.out W0.heap.size _ x w2.heap.size (HA2.out.own.alloc _) rfl (zf encL w2 x _) (by have:=HA2.out.bel.size;simp;omega) (zZ HN.out hL) ?_;intro v8 w8 hr8 hb8 hg8;have HB8:Hid (Below W0.heap.size W0 w8):=Lib.hid ((HA2.out.bel.trans (HB3.out.mono HA2.out.bel.size)).trans hb8);have HO8:=Lib.hid hr8;have HB9:=Lib.hid ((Below.refl w8.heap.size w8).alloc (Nat.le_refl _) (.cells (encL.cs y).toArray 195));clear d0 d1 d2 q0 q1 q2 hr8 hb8 hg8;obtain ⟨d0,d1,d2⟩:=lin3 (HAT.out.keep HB8.out HAT.out.lt))
           | (refine zx (E:=encL) rfl _ _ 37 195 rfl HI.out W0.heap.size _ y w8.heap.size (HO8.out.alloc _) rfl (zf encL w8 y _) (by have:=HB8.out.size;simp;omega) (kW HN.out hL) ?_;intro v9 w9 hr9 hb9 hg9)
           | fail)
          have HA9:Hid (InsAt encL Lin.key 195 W0 w9 L x (i+1) v9):=Lib.hid ⟨by rw [HTK.out,G.kK HD.out HLT.out];exact hr9,(HB8.out.trans (HB9.out.mono HB8.out.size)).trans hb9,zU HA2.out.no HY.out HYE.out⟩
          have HD9:Hid (G.doneR Lin.key (L.take (i+1)) x=true):=Lib.hid (by rw [HTK.out,G.zO,HD.out,HLT.out];rfl)
          clear hr9 hb9 hg9 d0 d1 d2
          go_wp2
          go_roundw
          case rel=>exact ⟨i+1,_,by omega,by go_num,rfl,by rw [HD9.out],HA9⟩
          case measure=>simp [intOf];omega
        | false =>
          have HLT:Hid (G.KeyO.lt (Lin.key x) (Lin.key y)=false):=Lib.hid hlx
          rw [hlx] at HAG
          clear hlx
          have r0:=fun p:Past wq=>za d0 p
          have r1:=fun p:Past wq=>za d1 p
          have r2:=fun p:Past wq=>za d2 p
          have s0:=fun p:Past wq=>za q0 p
          have s1:=fun p:Past wq=>za q1 p
          have s2:=fun p:Past wq=>za q2 p
          clear d0 d1 d2 q0 q1 q2
          go_wp2_with fail
          refine zS (by kernel_rfl) (by kernel_rfl) ?_
          repeat (go_big_quiet_step ((go_at_call 182;exact Calls.qi (HAG.out _))))
          refine wpQuiet_nil ?_
          intro w2 hw'
          obtain ⟨⟨w2',hb2⟩,rfl⟩:=hw'
          have HA2:=Lib.hid (HA1.out.keep hb2)
          clear r0 r1 r2 s0 s1 s2 HA1 hb2
          obtain ⟨d0,d1,d2⟩:=lin3 (HAT.out.keep HA2.out.bel HAT.out.lt)
          obtain ⟨q0,q1,q2⟩:=lin3 ((HX0.out.keep HA2.out.bel HX0.out.lt).at0)
          have HB3:=Lib.hid ((Below.refl w2.heap.size w2).alloc (Nat.le_refl _) (.cells (encL.cs y).toArray 195))
          go_wp2_with (at_builtin;refine zx (E:=encL) rfl _ _ 37 195 rfl HI.out W0.heap.size _ y w2.heap.size (HA2.out.own.alloc _) rfl (zf encL w2 y _) (by have:=HA2.out.bel.size;simp;omega) (zZ HN.out hL) ?_;intro v9 w9 hr9 hb9 hg9)
          have HA9:Hid (InsAt encL Lin.key 195 W0 w9 L x (i+1) v9):=Lib.hid ⟨by rw [HTK.out,G.k9 HD.out HLT.out];exact hr9,(HA2.out.bel.trans (HB3.out.mono HA2.out.bel.size)).trans hb9,zU HA2.out.no HY.out HYE.out⟩
          have HD9:Hid (G.doneR Lin.key (L.take (i+1)) x=false):=Lib.hid (by rw [HTK.out,G.zO,HD.out];first | rfl | (rw [HLT.out];rfl))
          clear hr9 hb9 hg9 d0 d1 d2 q0 q1 q2
          go_wp2
          go_roundw
          case rel=>exact ⟨i+1,_,by omega,by go_num,rfl,by rw [HD9.out],HA9⟩
          case measure=>simp [intOf];omega
    | true =>
      have h2:(y.flow.toList==x.flow.toList)=false:=(Lib.bytes_beq_false_iff y.flow x.flow).2 (fun e=>hyk (Prod.ext ((Lib.bytes_beq_iff y.acc x.acc).1 h1) e))
      clear hyk
      go_wp2_with fail
      go_big_quiet (fail)
      clear h1 h2
      have HA1:=Lib.hid (HA.out.drewN nq)
      clear d0 d1 d2 q0 q1 q2 HA HWQ
      generalize wr.drewN nq=wq at *
      obtain ⟨d0,d1,d2⟩:=lin3 (HAT.out.keep HA1.out.bel HAT.out.lt)
      obtain ⟨q0,q1,q2⟩:=lin3 ((HX0.out.keep HA1.out.bel HX0.out.lt).at0)
      cases D with
      | true =>
        go_wp2_with fail
        go_big_quiet (fail)
        have HA2:=Lib.hid (HA1.out.drewN nq)
        clear d0 d1 d2 q0 q1 q2 HA1
        generalize wq.drewN nq=w2 at *
        obtain ⟨d0,d1,d2⟩:=lin3 (HAT.out.keep HA2.out.bel HAT.out.lt)
        obtain ⟨q0,q1,q2⟩:=lin3 ((HX0.out.keep HA2.out.bel HX0.out.lt).at0)
        have HB3:=Lib.hid ((Below.refl w2.heap.size w2).alloc (Nat.le_refl _) (.cells (encL.cs y).toArray 195))
        go_wp2_with (at_builtin;refine zx (E:=encL) rfl _ _ 37 195 rfl HI.out W0.heap.size _ y w2.heap.size (HA2.out.own.alloc _) rfl (zf encL w2 y _) (by have:=HA2.out.bel.size;simp;omega) (zZ HN.out hL) ?_;intro v9 w9 hr9 hb9 hg9)
        have HA9:Hid (InsAt encL Lin.key 195 W0 w9 L x (i+1) v9):=Lib.hid ⟨by rw [HTK.out,G.kg y HD.out];exact hr9,(HA2.out.bel.trans (HB3.out.mono HA2.out.bel.size)).trans hb9,zU HA2.out.no HY.out HYE.out⟩
        have HD9:Hid (G.doneR Lin.key (L.take (i+1)) x=true):=Lib.hid (by rw [HTK.out,G.zO,HD.out];first | rfl | (rw [HLT.out];rfl))
        clear hr9 hb9 hg9 d0 d1 d2 q0 q1 q2
        go_wp2
        go_roundw
        case rel=>exact ⟨i+1,_,by omega,by go_num,rfl,by rw [HD9.out],HA9⟩
        case measure=>simp [intOf];omega
      | false =>
        have HAG:=Lib.hid (Xu x y)
        cases hlx:G.ltP x.key y.key with
        | true =>
          have HLT:Hid (G.KeyO.lt (Lin.key x) (Lin.key y)=true):=Lib.hid hlx
          rw [hlx] at HAG
          clear hlx
          have r0:=fun p:Past wq=>za d0 p
          have r1:=fun p:Past wq=>za d1 p
          have r2:=fun p:Past wq=>za d2 p
          have s0:=fun p:Past wq=>za q0 p
          have s1:=fun p:Past wq=>za q1 p
          have s2:=fun p:Past wq=>za q2 p
          clear d0 d1 d2 q0 q1 q2
          go_wp2_with fail
          refine zS (by kernel_rfl) (by kernel_rfl) ?_
          repeat (go_big_quiet_step ((go_at_call 182;exact Calls.qi (HAG.out _))))
          refine wpQuiet_nil ?_
          intro w2 hw'
          obtain ⟨⟨w2',hb2⟩,rfl⟩:=hw'
          have HA2:=Lib.hid (HA1.out.keep hb2)
          clear r0 r1 r2 s0 s1 s2 HA1 hb2
          obtain ⟨d0,d1,d2⟩:=lin3 (HAT.out.keep HA2.out.bel HAT.out.lt)
          obtain ⟨q0,q1,q2⟩:=lin3 ((HX0.out.keep HA2.out.bel HX0.out.lt).at0)
          have HB3:=Lib.hid ((Below.refl w2.heap.size w2).alloc (Nat.le_refl _) (.cells (encL.cs x).toArray 195))
          go_wp2_with (at_builtin;first
           | (refine zx (E:=encL) rfl _ _ 37 195 rfl HI.out W0.heap.size _ x w2.heap.size (HA2.out.own.alloc _) rfl (zf encL w2 x _) (by have:=HA2.out.bel.size;simp;omega) (zZ HN.out hL) ?_;intro v8 w8 hr8 hb8 hg8;have HB8:Hid (Below W0.heap.size W0 w8):=Lib.hid ((HA2.out.bel.trans (HB3.out.mono HA2.out.bel.size)).trans hb8);have HO8:=Lib.hid hr8;have HB9:=Lib.hid ((Below.refl w8.heap.size w8).alloc (Nat.le_refl _) (.cells (encL.cs y).toArray 195));clear d0 d1 d2 q0 q1 q2 hr8 hb8 hg8;obtain ⟨d0,d1,d2⟩:=lin3 (HAT.out.keep HB8.out HAT.out.lt))
           | (refine zx (E:=encL) rfl _ _ 37 195 rfl HI.out W0.heap.size _ y w8.heap.size (HO8.out.alloc _) rfl (zf encL w8 y _) (by have:=HB8.out.size;simp;omega) (kW HN.out hL) ?_;intro v9 w9 hr9 hb9 hg9)
           | fail)
          have HA9:Hid (InsAt encL Lin.key 195 W0 w9 L x (i+1) v9):=Lib.hid ⟨by rw [HTK.out,G.kK HD.out HLT.out];exact hr9,(HB8.out.trans (HB9.out.mono HB8.out.size)).trans hb9,zU HA2.out.no HY.out HYE.out⟩
          have HD9:Hid (G.doneR Lin.key (L.take (i+1)) x=true):=Lib.hid (by rw [HTK.out,G.zO,HD.out,HLT.out];rfl)
          clear hr9 hb9 hg9 d0 d1 d2
          go_wp2
          go_roundw
          case rel=>exact ⟨i+1,_,by omega,by go_num,rfl,by rw [HD9.out],HA9⟩
          case measure=>simp [intOf];omega
        | false =>
          have HLT:Hid (G.KeyO.lt (Lin.key x) (Lin.key y)=false):=Lib.hid hlx
          rw [hlx] at HAG
          clear hlx
          have r0:=fun p:Past wq=>za d0 p
          have r1:=fun p:Past wq=>za d1 p
          have r2:=fun p:Past wq=>za d2 p
          have s0:=fun p:Past wq=>za q0 p
          have s1:=fun p:Past wq=>za q1 p
          have s2:=fun p:Past wq=>za q2 p
          clear d0 d1 d2 q0 q1 q2
          go_wp2_with fail
          refine zS (by kernel_rfl) (by kernel_rfl) ?_
          repeat (go_big_quiet_step ((go_at_call 182;exact Calls.qi (HAG.out _))))
          refine wpQuiet_nil ?_
          intro w2 hw'
          obtain ⟨⟨w2',hb2⟩,rfl⟩:=hw'
          have HA2:=Lib.hid (HA1.out.keep hb2)
          clear r0 r1 r2 s0 s1 s2 HA1 hb2
          obtain ⟨d0,d1,d2⟩:=lin3 (HAT.out.keep HA2.out.bel HAT.out.lt)
          obtain ⟨q0,q1,q2⟩:=lin3 ((HX0.out.keep HA2.out.bel HX0.out.lt).at0)
          have HB3:=Lib.hid ((Below.refl w2.heap.size w2).alloc (Nat.le_refl _) (.cells (encL.cs y).toArray 195))
          go_wp2_with (at_builtin;refine zx (E:=encL) rfl _ _ 37 195 rfl HI.out W0.heap.size _ y w2.heap.size (HA2.out.own.alloc _) rfl (zf encL w2 y _) (by have:=HA2.out.bel.size;simp;omega) (zZ HN.out hL) ?_;intro v9 w9 hr9 hb9 hg9)
          have HA9:Hid (InsAt encL Lin.key 195 W0 w9 L x (i+1) v9):=Lib.hid ⟨by rw [HTK.out,G.k9 HD.out HLT.out];exact hr9,(HA2.out.bel.trans (HB3.out.mono HA2.out.bel.size)).trans hb9,zU HA2.out.no HY.out HYE.out⟩
          have HD9:Hid (G.doneR Lin.key (L.take (i+1)) x=false):=Lib.hid (by rw [HTK.out,G.zO,HD.out];first | rfl | (rw [HLT.out];rfl))
          clear hr9 hb9 hg9 d0 d1 d2 q0 q1 q2
          go_wp2
          go_roundw
          case rel=>exact ⟨i+1,_,by omega,by go_num,rfl,by rw [HD9.out],HA9⟩
          case measure=>simp [intOf];omega
  ·have hnf:Hid (∀ (j:Nat) (y:Lin),L[j]?=some y→y.key≠x.key):=Lib.hid (fun j y hy=>HA.out.no j y (by have:=(List.getElem?_eq_some_iff.1 hy).1;rw [HN.out] at this;omega) hy)
   have hNN:Hid (N=if 1000≤n then 4 else 0):=Lib.hid (by rw [←HE.out,ziO hnf.out,HN.out])
   have hTA:Hid (L.take i=L):=Lib.hid (List.take_of_length_le (by rw [HN.out];omega))
   rw [hTA.out]
   obtain ⟨D,hD⟩:∃ D,G.doneR Lin.key L x=D:=⟨_,rfl⟩
   have HD:=Lib.hid hD
   rw [hD]
   clear hD
   by_cases h60:1000≤n
   ·have HRS:Hid (N=4):=Lib.hid (by rw [hNN.out,if_pos h60])
    go_wp2
    go_ret2
    rw [HRS.out]
    exact ⟨_,rfl,fun _=>rfl,fun h=>absurd h (by decide),HB0.out.trans (HA.out.bel.mono HB0.out.size)⟩
   ·have HRS:Hid (N=0):=Lib.hid (by rw [hNN.out,if_neg h60])
    have HO:=Lib.hid HA.out.own
    rw [hTA.out] at HO
    cases D with
    | true =>
      go_wp2
      go_ret2
      rw [HRS.out]
      exact ⟨_,rfl,fun h=>absurd rfl h,fun _=>⟨_,by rw [←G.vo HD.out];exact zw HO.out HB0.out.size⟩,HB0.out.trans (HA.out.bel.mono HB0.out.size)⟩
    | false =>
      obtain ⟨q0,q1,q2⟩:=lin3 ((HX0.out.keep HA.out.bel HX0.out.lt).at0)
      have HB3:=Lib.hid ((Below.refl wr.heap.size wr).alloc (Nat.le_refl _) (.cells (encL.cs x).toArray 195))
      go_wp2_with (at_builtin;refine zx (E:=encL) rfl _ _ 37 195 rfl HI.out W0.heap.size _ x wr.heap.size (HO.out.alloc _) rfl (zf encL wr x _) (by have:=HA.out.bel.size;simp;omega) (vN HN.out hL) ?_;intro v9 w9 hr9 hb9 hg9)
      have HO9:=Lib.hid hr9
      have HB9:=Lib.hid ((HA.out.bel.trans (HB3.out.mono HA.out.bel.size)).trans hb9)
      clear hr9 hb9 hg9 q0 q1 q2
      go_wp2
      go_ret2
      rw [HRS.out]
      exact ⟨_,rfl,fun h=>absurd rfl h,fun _=>⟨_,by rw [←G.vJ HD.out];exact zw HO9.out HB0.out.size⟩,HB0.out.trans (HB9.out.mono HB0.out.size)⟩
end Go.Proofs.YtdhfpgjnjlcciaaGreatDoor.Un
end
section
namespace Go.Proofs.YtdhfpgjnjlcciaaGreatDoor.Un
open Go.RowKit
theorem zfk {w:World} {b o:Nat} {a:Acct} (h:AcctAt w b o a):ElAt encA w b o a:=fun j v hj=>h.cell j v hj
theorem zdU {w:World} {b o:Nat} {a:Acct} (h:ElAt encA w b o a):AcctAt w b o a:=Ym fun j v hj=>h j v hj
theorem acct6 {w:World} {b o:Nat} {a:Acct} (h:ElAt encA w b o a):w.cell? ⟨b,o,none⟩=some (.string a.code)∧w.cell? ⟨b,o+1,none⟩=some (.int .i64 a.cls)∧w.cell? ⟨b,o+2,none⟩=some (.bool a.cash)∧w.cell? ⟨b,o+3,none⟩=some (.bool a.both)∧w.cell? ⟨b,o+4,none⟩=some (.string a.fixed)∧w.cell? ⟨b,o+5,none⟩=some (.bool a.worn):=⟨h 0 _ rfl,h 1 _ rfl,h 2 _ rfl,h 3 _ rfl,h 4 _ rfl,h 5 _ rfl⟩
theorem jR {w:World} {v:Value} {L:List Acct}:ChartV w v L ↔ ElsV encA w v L:=by
 constructor
 ·rintro ⟨p,c,e,h1,h2,h3,hc⟩
  exact ⟨p,c,e,h1,h2,h3,fun i x hx=>by
   obtain ⟨b,o,e',hat⟩:=hc i x hx
   exact ⟨b,o,e',zfk hat⟩⟩
 ·rintro ⟨p,c,e,h1,h2,h3,hc⟩
  exact ⟨p,c,e,h1,h2,h3,fun i x hx=>by
   obtain ⟨b,o,e',hat⟩:=hc i x hx
   exact ⟨b,o,e',zdU hat⟩⟩
set_option maxRecDepth 100000 in
set_option maxHeartbeats 2000000 in
theorem Qg (v:Value) (L:List Acct) (code:ByteArray) (w:World) (h:ChartV w v L) :
 Calls Tryz.prog 70 #[v,.string code] w fun e w'=>e=.returned (.tuple #[aggF (findV (findL L code)),.bool (findL L code).isSome])∧Below w.heap.size w w':=by
 obtain ⟨a,c,rfl,hcap,hm,_,hc⟩:=h
 obtain ⟨n,hn⟩:∃ n,L.length=n:=⟨_,rfl⟩
 obtain ⟨r,hr⟩:∃ r,findL L code=r:=⟨_,rfl⟩
 rw [hn] at hcap ⊢
 rw [hr]
 have HC:=Lib.hid hc
 have HN:=Lib.hid hn
 have HR:=Lib.hid hr
 unfold maxLen at hm
 clear hc hn hr
 obtain ⟨R,hR⟩:∃ R,findV r=R:=⟨_,rfl⟩
 obtain ⟨S,hS⟩:∃ S,r.isSome=S:=⟨_,rfl⟩
 rw [hR,hS]
 have HRV:=Lib.hid hR
 have HSV:=Lib.hid hS
 clear hR hS
 have HB0:=Lib.hid ((Below.refl w.heap.size w).alloc (Nat.le_refl _) (.cells #[.string ⟨#[]⟩,.int .i64 0,.bool false,.bool false,.string ⟨#[]⟩,.bool false] 151))
 have HC0:=Lib.hid (BoxA.new w zeroA 151)
 go_enter Tryz.func70,Tryz.ntmps70
 go_wp2
 go_loopw [6] (fun s6 wr=>∃ i:Nat,i≤n∧s6=.int .i64 (i:Int)∧Below w.heap.size w wr∧w.heap.size < wr.heap.size∧BoxA wr w.heap.size 151 zeroA∧Hid (∀ (j:Nat) (y:Acct),j < i→L[j]?=some y→y.code≠code)) (fun s6 _=>n - (intOf s6).toNat)
 case atStart=>exact ⟨0,Nat.zero_le _,rfl,HB0.out,by simp,HC0.out,Lib.hid fun j y hj=>absurd hj (Nat.not_lt_zero _)⟩
 case round =>
  obtain ⟨i,hi,rfl,hnx,hsz,hbox,HNO⟩:=hrel
  by_cases hlt:i < n
  ·obtain ⟨x,hx⟩:∃ x,L[i]?=some x:=⟨_,List.getElem?_eq_getElem (by rw [HN.out];exact hlt)⟩
   obtain ⟨b,o,rfl,hat⟩:=HC.out i x hx
   obtain ⟨c0,c1,c2,c3,c4,c5⟩:=hat.keep hnx hat.lt
   have HX:=Lib.hid hx
   have HBX:=Lib.hid hbox
   have HNX:=Lib.hid hnx
   have HSZ:=Lib.hid hsz
   clear hx hbox hat hnx hsz
   cases hxe:(x.code.toList==code.toList) with
   | false =>
     have HXE:=Lib.hid ((Lib.bytes_beq_false_iff x.code code).1 hxe)
     go_wp2
     go_roundw
     case rel=>exact ⟨i+1,by omega,by go_num,HNX.out,HSZ.out,HBX.out,Lib.hid fun j y hj hy=>by
      rcases Nat.lt_or_ge j i with h | h
      ·exact HNO.out j y h hy
      ·obtain rfl:j=i:=by omega
       rw [HX.out] at hy;cases hy;exact HXE.out⟩
     case measure=>simp [intOf];omega
   | true =>
     have HXE:=Lib.hid ((Lib.bytes_beq_iff x.code code).1 hxe)
     have hres:Hid (r=some x):=Lib.hid (by rw [←HR.out];exact Va HNO.out HX.out HXE.out)
     go_wp2_with (refine qp rfl 151 (.tmp 4) (.tmp 23) rfl w.heap.size zeroA x 151 rfl rfl HBX.out (by kernel_rfl) ?_;intro w2 hb2 hg2)
     have HF:=Lib.hid (HNX.out.grown hg2 HNX.out.size (fun j hj=>by cases hj;exact Nat.le_refl _))
     obtain ⟨d0,d1,d2,d3,d4,d5⟩:=hb2.facts
     clear hb2 hg2
     refine bodyPost_ret (v:=.tuple #[aggF x,.bool true]) (by simp [results,Tryz.results70,go_sem,d0,d1,d2,d3,d4,d5]) rfl ⟨?_,HF.out⟩
     rw [←HRV.out,←HSV.out,hres.out];rfl
  ·have hres:Hid (r=none):=Lib.hid (by
    rw [←HR.out]
    refine zar fun j y hy=>HNO.out j y ?_ hy
    have:=(List.getElem?_eq_some_iff.1 hy).1
    rw [HN.out] at this;omega)
   have HNX:=Lib.hid hnx
   go_wp2_with (refine qp rfl 151 (.tmp 4) (.tmp 24) rfl w.heap.size zeroA zeroA 151 rfl rfl hbox (by kernel_rfl) ?_;intro w2 hb2 hg2)
   have HF:=Lib.hid (HNX.out.grown hg2 HNX.out.size (fun j hj=>by cases hj;exact Nat.le_refl _))
   obtain ⟨d0,d1,d2,d3,d4,d5⟩:=hb2.facts
   clear hb2 hg2
   refine bodyPost_ret (v:=.tuple #[aggF zeroA,.bool false]) (by simp [results,Tryz.results70,go_sem,d0,d1,d2,d3,d4,d5]) rfl ⟨?_,HF.out⟩
   rw [←HRV.out,←HSV.out,hres.out];rfl
end Go.Proofs.YtdhfpgjnjlcciaaGreatDoor.Un
end
section
namespace Go.Proofs.YtdhfpgjnjlcciaaGreatDoor.Un
open Go.RowKit
section
variable {W0 wx wr w' w2:World} {B g:Nat} {vc vf ve vl v':Value} {M:Mast} {F:List Fl.Flow} {E:List Ent} {L:List Lin}
theorem vG (w:World) (g i:Nat) (v:Value):w.grownBy (w.setCell ⟨g,i,none⟩ v) (some g):=⟨rfl,rfl,rfl,by simp [World.setCell],fun k _ hk=>Below.heap_setCell w _ v k (fun e=>hk (by rw [e]))⟩
end
end Go.Proofs.YtdhfpgjnjlcciaaGreatDoor.Un
end
