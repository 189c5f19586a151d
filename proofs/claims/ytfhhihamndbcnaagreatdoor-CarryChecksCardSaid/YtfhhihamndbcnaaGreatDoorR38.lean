/- LinDoc UnitOurs FlowDocParse -/
import Derived.Test.YtfhhihamndbcnaaGreatDoorR28
import Derived.Test.YtfhhihamndbcnaaGreatDoorR30
import Derived.Test.YtfhhihamndbcnaaGreatDoorR33
section
namespace Go.Proofs.YtfhhihamndbcnaaGreatDoor.Un
open Go.RowKit
set_option maxRecDepth 100000 in
set_option maxHeartbeats 4000000 in
theorem ahead_any (x y:Lin) (w:World) :
 Calls Tryz.prog 160 #[aggN x,aggN y] w fun en w'=>en=.returned (.bool (G.ltP x.key y.key))∧Below w.heap.size w w':=by
 have HB:=Lib.hid (((Below.refl w.heap.size w).alloc (Nat.le_refl _) (.cells (encL.cs x).toArray 184)).alloc (by simp) (.cells (encL.cs y).toArray 184))
 obtain ⟨R,hR⟩:∃ R,G.ltP x.key y.key=R:=⟨_,rfl⟩
 rw [hR]
 have hRR:R=(ltS x.acc y.acc || (decide (x.acc=y.acc) && ltS x.flow y.flow)):=hR.symm
 have HR:=Lib.hid hRR
 clear hR hRR
 cases h1:ltS x.acc y.acc with
 | true =>
   have HRS:Hid (R=true):=Lib.hid (by rw [HR.out,h1];rfl)
   unfold ltS at h1
   go_enter Tryz.func160,Tryz.ntmps160
   go_wp2
   go_ret
   exact ⟨ret_bool HRS.out.symm,HB.out⟩
 | false =>
   cases h2:(x.acc.toList==y.acc.toList) with
   | false =>
     have HRS:Hid (R=false):=Lib.hid (by rw [HR.out,h1,decide_eq_false ((Lib.bytes_beq_false_iff x.acc y.acc).1 h2)];rfl)
     unfold ltS at h1
     go_enter Tryz.func160,Tryz.ntmps160
     go_wp2
     go_ret
     exact ⟨ret_bool HRS.out.symm,HB.out⟩
   | true =>
     cases h3:ltS x.flow y.flow with
     | true =>
       have HRS:Hid (R=true):=Lib.hid (by rw [HR.out,h1,decide_eq_true ((Lib.bytes_beq_iff x.acc y.acc).1 h2),h3];rfl)
       unfold ltS at h1 h3
       go_enter Tryz.func160,Tryz.ntmps160
       go_wp2
       go_ret
       exact ⟨ret_bool HRS.out.symm,HB.out⟩
     | false =>
       have HRS:Hid (R=false):=Lib.hid (by rw [HR.out,h1,decide_eq_true ((Lib.bytes_beq_iff x.acc y.acc).1 h2),h3];rfl)
       unfold ltS at h1 h3
       go_enter Tryz.func160,Tryz.ntmps160
       go_wp2
       go_ret
       exact ⟨ret_bool HRS.out.symm,HB.out⟩
theorem info_rlin:InfoE Tryz.prog 35 184 encL :=
 InfoE.of (z:=.agg #[.string ⟨#[]⟩,.string ⟨#[]⟩,.string ⟨#[]⟩]) (n:=48) Tryz.underlying35 (by kernel_rfl) (by kernel_rfl) (by decide)
theorem InsAt.keep {α κ:Type} [G.KeyO κ] {E:Enc α} {key:α→κ} {e:TypeId} {W0 wr w':World} {L:List α} {x:α} {i:Nat} {s6:Value} (h:InsAt E key e W0 wr L x i s6) (hb:Below wr.heap.size wr w'):InsAt E key e W0 w' L x i s6:=⟨row_below h.own hb,h.bel.trans (hb.mono h.bel.size),h.no⟩
theorem linE_there {L:List Lin} {x y:Lin} {i:Nat} (hy:L[i]?=some y) (he:y.key=x.key):linEr L x=7:=by
 unfold linEr
 rw [if_pos]
 have hm:=List.mem_of_getElem? hy
 cases hf:G.findK Lin.key L x.key with
 | some z=>rfl
 | none=>exact absurd he (G.findK_no hf y hm)
theorem linE_not {L:List Lin} {x:Lin} (h:∀ (j:Nat) (y:Lin),L[j]?=some y→y.key≠x.key):linEr L x=if 1000≤L.length then 4 else 0:=by
 unfold linEr
 rw [if_neg]
 rw [G.findK_none (fun y hy e=>by
  obtain ⟨j,hj,rfl⟩:=List.getElem_of_mem hy
  exact h j _ (List.getElem?_eq_getElem hj) e)]
 simp
set_option maxRecDepth 100000 in
set_option maxHeartbeats 8000000 in
theorem rline_any (v:Value) (L:List Lin) (x:Lin) (w:World) (h:ElsV encL w v L) (hL:L.length≤1000) :
 Calls Tryz.prog 129 #[v,aggN x] w (ListTold encL w v (G.insR Lin.key L x) (linEr L x)):=by
 have hB0:=(Below.refl w.heap.size w).alloc (Nat.le_refl _) (.cells #[.string x.acc,.string x.flow,.string x.goal] 184)
 have hX0:=BoxE.new encL w x 184
 have hV0:=h.keep hB0
 have hS0:(w.alloc (.cells #[.string x.acc,.string x.flow,.string x.goal] 184)).heap.size=w.heap.size+1:=World.size_alloc ..
 obtain ⟨W0,hW0⟩:∃ W0,w.alloc (.cells #[.string x.acc,.string x.flow,.string x.goal] 184)=W0:=⟨_,rfl⟩
 have hX0':BoxE encL W0 w.heap.size 184 x:=by rw [←hW0];exact hX0
 rw [hW0] at hB0 hV0 hS0
 have HB0:=Lib.hid hB0
 have HX0:=Lib.hid hX0'
 have HV0:=Lib.hid hV0
 have HS0:=Lib.hid hS0
 obtain ⟨p,c,e,hcap,hm,_,hc⟩:=hV0
 subst e
 obtain ⟨n,hn⟩:∃ n,L.length=n:=⟨_,rfl⟩
 rw [hn] at hcap hL HV0 ⊢
 obtain ⟨N,hN⟩:∃ N,linEr L x=N:=⟨_,rfl⟩
 rw [hN]
 have HC:=Lib.hid hc
 have HN:=Lib.hid hn
 have HE:=Lib.hid hN
 have HI:=Lib.hid info_rlin
 unfold maxLen at hm
 have HST:Hid (InsAt encL Lin.key 184 W0 W0 L x 0 (.slice none 0 0)):=Lib.hid ⟨World.ownsRow_nil _ _ _ _,Below.refl _ _,fun j y hj=>absurd hj (Nat.not_lt_zero _)⟩
 clear h hB0 hX0 hX0' hS0 hc hn hN
 go_enter Tryz.func129,Tryz.ntmps129
 go_wp2
 clear hW0
 go_loopw [6,7,8] (fun s6 s7 s8 wr=>∃ (i:Nat) (v6:Value),i≤n∧s8=.int .i64 (i:Int)∧v6=s6∧s7=.bool (G.doneR Lin.key (L.take i) x)∧Hid (InsAt encL Lin.key 184 W0 wr L x i v6)) (fun _ _ s8 _=>n - (intOf s8).toNat)
 case atStart=>exact ⟨0,_,Nat.zero_le _,rfl,rfl,rfl,HST⟩
 case round =>
  obtain ⟨i,v6,hi,rfl,rfl,rfl,HA⟩:=hrel
  by_cases hlt:i < n
  ·obtain ⟨y,hy⟩:∃ y,L[i]?=some y:=⟨_,List.getElem?_eq_getElem (by rw [HN.out];exact hlt)⟩
   obtain ⟨b,o,rfl,hat⟩:=HC.out i y hy
   obtain ⟨d0,d1,d2⟩:=lin3 (hat.keep HA.out.bel hat.lt)
   obtain ⟨q0,q1,q2⟩:=lin3 ((HX0.out.keep HA.out.bel HX0.out.lt).at0)
   have HY:=Lib.hid hy
   have HAT:=Lib.hid hat
   have HTK:Hid (L.take (i+1)=L.take i++[y]):=Lib.hid (by rw [List.take_succ_eq_append_getElem (by rw [HN.out];exact hlt),(List.getElem?_eq_some_iff.1 hy).2])
   obtain ⟨D,hD⟩:∃ D,G.doneR Lin.key (L.take i) x=D:=⟨_,rfl⟩
   have HD:=Lib.hid hD
   rw [hD]
   clear hy hat hD
   by_cases hyk:y.key=x.key
   ·have HYE:=Lib.hid hyk
    have HRS:Hid (N=7):=Lib.hid (by rw [←HE.out];exact linE_there HY.out HYE.out)
    have h1:(y.acc.toList==x.acc.toList)=true:=(Lib.bytes_beq_iff y.acc x.acc).2 (Prod.mk.inj hyk).1
    have h2:(y.flow.toList==x.flow.toList)=true:=(Lib.bytes_beq_iff y.flow x.flow).2 (Prod.mk.inj hyk).2
    clear hyk
    go_wp2_with fail
    go_big_quiet (fail)
    clear d0 d1 d2 q0 q1 q2 h1 h2
    go_wp2
    go_ret2
    have HQ:=HA.out.drewN nq
    rw [HRS.out]
    exact ⟨_,rfl,fun _=>rfl,fun h=>absurd h (by decide),HB0.out.trans (HQ.bel.mono HB0.out.size)⟩
   ·have HYE:=Lib.hid hyk
    have HWQ:Hid (∀ wq,(∃ q,wq=wr.drewN q)→InsAt encL Lin.key 184 W0 wq L x i v6):=Lib.hid (fun wq ⟨q,e⟩=>by rw [e];exact HA.out.drewN q)
    cases h1:(y.acc.toList==x.acc.toList) with
    | false =>
      clear hyk
      go_wp2_with fail
      go_big_quiet (fail)
      clear h1
      have HA1:=Lib.hid (HA.out.drewN nq)
      clear d0 d1 d2 q0 q1 q2 HA HWQ
      generalize wr.drewN nq=wq at *
      obtain ⟨d0,d1,d2⟩:=lin3 (HAT.out.keep HA1.out.bel HAT.out.lt)
      obtain ⟨q0,q1,q2⟩:=lin3 ((HX0.out.keep HA1.out.bel HX0.out.lt).at0)
      cases D with
      | true =>
        go_wp2_with fail
        go_big_quiet (fail)
        have HA2:=Lib.hid (HA1.out.drewN nq)
        clear d0 d1 d2 q0 q1 q2 HA1
        generalize wq.drewN nq=w2 at *
        obtain ⟨d0,d1,d2⟩:=lin3 (HAT.out.keep HA2.out.bel HAT.out.lt)
        obtain ⟨q0,q1,q2⟩:=lin3 ((HX0.out.keep HA2.out.bel HX0.out.lt).at0)
        have HB3:=Lib.hid ((Below.refl w2.heap.size w2).alloc (Nat.le_refl _) (.cells (encL.cs y).toArray 184))
        go_wp2_with (at_builtin;refine wpList_append_el (E:=encL) rfl _ _ 35 184 rfl HI.out W0.heap.size _ y w2.heap.size (HA2.out.own.alloc _) rfl (el_new encL w2 y _) (by have:=HA2.out.bel.size;simp;omega) (mid_small HN.out hL) ?_;intro v9 w9 hr9 hb9 hg9)
        have HA9:Hid (InsAt encL Lin.key 184 W0 w9 L x (i+1) v9):=Lib.hid ⟨by rw [HTK.out,G.midR_there y HD.out];exact hr9,(HA2.out.bel.trans (HB3.out.mono HA2.out.bel.size)).trans hb9,no_snoc HA2.out.no HY.out HYE.out⟩
        have HD9:Hid (G.doneR Lin.key (L.take (i+1)) x=true):=Lib.hid (by rw [HTK.out,G.doneR_snoc,HD.out];first | rfl | (rw [HLT.out];rfl))
        clear hr9 hb9 hg9 d0 d1 d2 q0 q1 q2
        go_wp2
        go_roundw
        case rel=>exact ⟨i+1,_,by omega,by go_num,rfl,by rw [HD9.out],HA9⟩
        case measure=>simp [intOf];omega
      | false =>
        have HAG:=Lib.hid (ahead_any x y)
        cases hlx:G.ltP x.key y.key with
        | true =>
          have HLT:Hid (G.KeyO.lt (Lin.key x) (Lin.key y)=true):=Lib.hid hlx
          rw [hlx] at HAG
          clear hlx
          have r0:=fun p:Past wq=>cell_past d0 p
          have r1:=fun p:Past wq=>cell_past d1 p
          have r2:=fun p:Past wq=>cell_past d2 p
          have s0:=fun p:Past wq=>cell_past q0 p
          have s1:=fun p:Past wq=>cell_past q1 p
          have s2:=fun p:Past wq=>cell_past q2 p
          clear d0 d1 d2 q0 q1 q2
          go_wp2_with fail
          refine wp_region_past (by kernel_rfl) (by kernel_rfl) ?_
          repeat (go_big_quiet_step ((go_at_call 160;exact Calls.past_of (HAG.out _))))
          refine wpQuiet_nil ?_
          intro w2 hw'
          obtain ⟨⟨w2',hb2⟩,rfl⟩:=hw'
          have HA2:=Lib.hid (HA1.out.keep hb2)
          clear r0 r1 r2 s0 s1 s2 HA1 hb2
          obtain ⟨d0,d1,d2⟩:=lin3 (HAT.out.keep HA2.out.bel HAT.out.lt)
          obtain ⟨q0,q1,q2⟩:=lin3 ((HX0.out.keep HA2.out.bel HX0.out.lt).at0)
          have HB3:=Lib.hid ((Below.refl w2.heap.size w2).alloc (Nat.le_refl _) (.cells (encL.cs x).toArray 184))
          go_wp2_with (at_builtin;first
           | (refine wpList_append_el (E:=encL) rfl _ _ 35 184 rfl HI.out W0.heap.size _ x w2.heap.size (HA2.out.own.alloc _) rfl (el_new encL w2 x _) (by have:=HA2.out.bel.size;simp;omega) (mid_small HN.out hL) ?_;intro v8 w8 hr8 hb8 hg8;have HB8:Hid (Below W0.heap.size W0 w8):=Lib.hid ((HA2.out.bel.trans (HB3.out.mono HA2.out.bel.size)).trans hb8);have HO8:=Lib.hid hr8;have HB9:=Lib.hid ((Below.refl w8.heap.size w8).alloc (Nat.le_refl _) (.cells (encL.cs y).toArray 184));clear d0 d1 d2 q0 q1 q2 hr8 hb8 hg8;obtain ⟨d0,d1,d2⟩:=lin3 (HAT.out.keep HB8.out HAT.out.lt))
           | (refine wpList_append_el (E:=encL) rfl _ _ 35 184 rfl HI.out W0.heap.size _ y w8.heap.size (HO8.out.alloc _) rfl (el_new encL w8 y _) (by have:=HB8.out.size;simp;omega) (mid_small1 HN.out hL) ?_;intro v9 w9 hr9 hb9 hg9)
           | fail)
          have HA9:Hid (InsAt encL Lin.key 184 W0 w9 L x (i+1) v9):=Lib.hid ⟨by rw [HTK.out,G.midR_now HD.out HLT.out];exact hr9,(HB8.out.trans (HB9.out.mono HB8.out.size)).trans hb9,no_snoc HA2.out.no HY.out HYE.out⟩
          have HD9:Hid (G.doneR Lin.key (L.take (i+1)) x=true):=Lib.hid (by rw [HTK.out,G.doneR_snoc,HD.out,HLT.out];rfl)
          clear hr9 hb9 hg9 d0 d1 d2
          go_wp2
          go_roundw
          case rel=>exact ⟨i+1,_,by omega,by go_num,rfl,by rw [HD9.out],HA9⟩
          case measure=>simp [intOf];omega
        | false =>
          have HLT:Hid (G.KeyO.lt (Lin.key x) (Lin.key y)=false):=Lib.hid hlx
          rw [hlx] at HAG
          clear hlx
          have r0:=fun p:Past wq=>cell_past d0 p
          have r1:=fun p:Past wq=>cell_past d1 p
          have r2:=fun p:Past wq=>cell_past d2 p
          have s0:=fun p:Past wq=>cell_past q0 p
          have s1:=fun p:Past wq=>cell_past q1 p
          have s2:=fun p:Past wq=>cell_past q2 p
          clear d0 d1 d2 q0 q1 q2
          go_wp2_with fail
          refine wp_region_past (by kernel_rfl) (by kernel_rfl) ?_
          repeat (go_big_quiet_step ((go_at_call 160;exact Calls.past_of (HAG.out _))))
          refine wpQuiet_nil ?_
          intro w2 hw'
          obtain ⟨⟨w2',hb2⟩,rfl⟩:=hw'
          have HA2:=Lib.hid (HA1.out.keep hb2)
          clear r0 r1 r2 s0 s1 s2 HA1 hb2
          obtain ⟨d0,d1,d2⟩:=lin3 (HAT.out.keep HA2.out.bel HAT.out.lt)
          obtain ⟨q0,q1,q2⟩:=lin3 ((HX0.out.keep HA2.out.bel HX0.out.lt).at0)
          have HB3:=Lib.hid ((Below.refl w2.heap.size w2).alloc (Nat.le_refl _) (.cells (encL.cs y).toArray 184))
          go_wp2_with (at_builtin;refine wpList_append_el (E:=encL) rfl _ _ 35 184 rfl HI.out W0.heap.size _ y w2.heap.size (HA2.out.own.alloc _) rfl (el_new encL w2 y _) (by have:=HA2.out.bel.size;simp;omega) (mid_small HN.out hL) ?_;intro v9 w9 hr9 hb9 hg9)
          have HA9:Hid (InsAt encL Lin.key 184 W0 w9 L x (i+1) v9):=Lib.hid ⟨by rw [HTK.out,G.midR_not HD.out HLT.out];exact hr9,(HA2.out.bel.trans (HB3.out.mono HA2.out.bel.size)).trans hb9,no_snoc HA2.out.no HY.out HYE.out⟩
          have HD9:Hid (G.doneR Lin.key (L.take (i+1)) x=false):=Lib.hid (by rw [HTK.out,G.doneR_snoc,HD.out];first | rfl | (rw [HLT.out];rfl))
          clear hr9 hb9 hg9 d0 d1 d2 q0 q1 q2
          go_wp2
          go_roundw
          case rel=>exact ⟨i+1,_,by omega,by go_num,rfl,by rw [HD9.out],HA9⟩
          case measure=>simp [intOf];omega
    | true =>
      have h2:(y.flow.toList==x.flow.toList)=false:=(Lib.bytes_beq_false_iff y.flow x.flow).2 (fun e=>hyk (Prod.ext ((Lib.bytes_beq_iff y.acc x.acc).1 h1) e))
      clear hyk
      go_wp2_with fail
      go_big_quiet (fail)
      clear h1 h2
      have HA1:=Lib.hid (HA.out.drewN nq)
      clear d0 d1 d2 q0 q1 q2 HA HWQ
      generalize wr.drewN nq=wq at *
      obtain ⟨d0,d1,d2⟩:=lin3 (HAT.out.keep HA1.out.bel HAT.out.lt)
      obtain ⟨q0,q1,q2⟩:=lin3 ((HX0.out.keep HA1.out.bel HX0.out.lt).at0)
      cases D with
      | true =>
        go_wp2_with fail
        go_big_quiet (fail)
        have HA2:=Lib.hid (HA1.out.drewN nq)
        clear d0 d1 d2 q0 q1 q2 HA1
        generalize wq.drewN nq=w2 at *
        obtain ⟨d0,d1,d2⟩:=lin3 (HAT.out.keep HA2.out.bel HAT.out.lt)
        obtain ⟨q0,q1,q2⟩:=lin3 ((HX0.out.keep HA2.out.bel HX0.out.lt).at0)
        have HB3:=Lib.hid ((Below.refl w2.heap.size w2).alloc (Nat.le_refl _) (.cells (encL.cs y).toArray 184))
        go_wp2_with (at_builtin;refine wpList_append_el (E:=encL) rfl _ _ 35 184 rfl HI.out W0.heap.size _ y w2.heap.size (HA2.out.own.alloc _) rfl (el_new encL w2 y _) (by have:=HA2.out.bel.size;simp;omega) (mid_small HN.out hL) ?_;intro v9 w9 hr9 hb9 hg9)
        have HA9:Hid (InsAt encL Lin.key 184 W0 w9 L x (i+1) v9):=Lib.hid ⟨by rw [HTK.out,G.midR_there y HD.out];exact hr9,(HA2.out.bel.trans (HB3.out.mono HA2.out.bel.size)).trans hb9,no_snoc HA2.out.no HY.out HYE.out⟩
        have HD9:Hid (G.doneR Lin.key (L.take (i+1)) x=true):=Lib.hid (by rw [HTK.out,G.doneR_snoc,HD.out];first | rfl | (rw [HLT.out];rfl))
        clear hr9 hb9 hg9 d0 d1 d2 q0 q1 q2
        go_wp2
        go_roundw
        case rel=>exact ⟨i+1,_,by omega,by go_num,rfl,by rw [HD9.out],HA9⟩
        case measure=>simp [intOf];omega
      | false =>
        have HAG:=Lib.hid (ahead_any x y)
        cases hlx:G.ltP x.key y.key with
        | true =>
          have HLT:Hid (G.KeyO.lt (Lin.key x) (Lin.key y)=true):=Lib.hid hlx
          rw [hlx] at HAG
          clear hlx
          have r0:=fun p:Past wq=>cell_past d0 p
          have r1:=fun p:Past wq=>cell_past d1 p
          have r2:=fun p:Past wq=>cell_past d2 p
          have s0:=fun p:Past wq=>cell_past q0 p
          have s1:=fun p:Past wq=>cell_past q1 p
          have s2:=fun p:Past wq=>cell_past q2 p
          clear d0 d1 d2 q0 q1 q2
          go_wp2_with fail
          refine wp_region_past (by kernel_rfl) (by kernel_rfl) ?_
          repeat (go_big_quiet_step ((go_at_call 160;exact Calls.past_of (HAG.out _))))
          refine wpQuiet_nil ?_
          intro w2 hw'
          obtain ⟨⟨w2',hb2⟩,rfl⟩:=hw'
          have HA2:=Lib.hid (HA1.out.keep hb2)
          clear r0 r1 r2 s0 s1 s2 HA1 hb2
          obtain ⟨d0,d1,d2⟩:=lin3 (HAT.out.keep HA2.out.bel HAT.out.lt)
          obtain ⟨q0,q1,q2⟩:=lin3 ((HX0.out.keep HA2.out.bel HX0.out.lt).at0)
          have HB3:=Lib.hid ((Below.refl w2.heap.size w2).alloc (Nat.le_refl _) (.cells (encL.cs x).toArray 184))
          go_wp2_with (at_builtin;first
           | (refine wpList_append_el (E:=encL) rfl _ _ 35 184 rfl HI.out W0.heap.size _ x w2.heap.size (HA2.out.own.alloc _) rfl (el_new encL w2 x _) (by have:=HA2.out.bel.size;simp;omega) (mid_small HN.out hL) ?_;intro v8 w8 hr8 hb8 hg8;have HB8:Hid (Below W0.heap.size W0 w8):=Lib.hid ((HA2.out.bel.trans (HB3.out.mono HA2.out.bel.size)).trans hb8);have HO8:=Lib.hid hr8;have HB9:=Lib.hid ((Below.refl w8.heap.size w8).alloc (Nat.le_refl _) (.cells (encL.cs y).toArray 184));clear d0 d1 d2 q0 q1 q2 hr8 hb8 hg8;obtain ⟨d0,d1,d2⟩:=lin3 (HAT.out.keep HB8.out HAT.out.lt))
           | (refine wpList_append_el (E:=encL) rfl _ _ 35 184 rfl HI.out W0.heap.size _ y w8.heap.size (HO8.out.alloc _) rfl (el_new encL w8 y _) (by have:=HB8.out.size;simp;omega) (mid_small1 HN.out hL) ?_;intro v9 w9 hr9 hb9 hg9)
           | fail)
          have HA9:Hid (InsAt encL Lin.key 184 W0 w9 L x (i+1) v9):=Lib.hid ⟨by rw [HTK.out,G.midR_now HD.out HLT.out];exact hr9,(HB8.out.trans (HB9.out.mono HB8.out.size)).trans hb9,no_snoc HA2.out.no HY.out HYE.out⟩
          have HD9:Hid (G.doneR Lin.key (L.take (i+1)) x=true):=Lib.hid (by rw [HTK.out,G.doneR_snoc,HD.out,HLT.out];rfl)
          clear hr9 hb9 hg9 d0 d1 d2
          go_wp2
          go_roundw
          case rel=>exact ⟨i+1,_,by omega,by go_num,rfl,by rw [HD9.out],HA9⟩
          case measure=>simp [intOf];omega
        | false =>
          have HLT:Hid (G.KeyO.lt (Lin.key x) (Lin.key y)=false):=Lib.hid hlx
          rw [hlx] at HAG
          clear hlx
          have r0:=fun p:Past wq=>cell_past d0 p
          have r1:=fun p:Past wq=>cell_past d1 p
          have r2:=fun p:Past wq=>cell_past d2 p
          have s0:=fun p:Past wq=>cell_past q0 p
          have s1:=fun p:Past wq=>cell_past q1 p
          have s2:=fun p:Past wq=>cell_past q2 p
          clear d0 d1 d2 q0 q1 q2
          go_wp2_with fail
          refine wp_region_past (by kernel_rfl) (by kernel_rfl) ?_
          repeat (go_big_quiet_step ((go_at_call 160;exact Calls.past_of (HAG.out _))))
          refine wpQuiet_nil ?_
          intro w2 hw'
          obtain ⟨⟨w2',hb2⟩,rfl⟩:=hw'
          have HA2:=Lib.hid (HA1.out.keep hb2)
          clear r0 r1 r2 s0 s1 s2 HA1 hb2
          obtain ⟨d0,d1,d2⟩:=lin3 (HAT.out.keep HA2.out.bel HAT.out.lt)
          obtain ⟨q0,q1,q2⟩:=lin3 ((HX0.out.keep HA2.out.bel HX0.out.lt).at0)
          have HB3:=Lib.hid ((Below.refl w2.heap.size w2).alloc (Nat.le_refl _) (.cells (encL.cs y).toArray 184))
          go_wp2_with (at_builtin;refine wpList_append_el (E:=encL) rfl _ _ 35 184 rfl HI.out W0.heap.size _ y w2.heap.size (HA2.out.own.alloc _) rfl (el_new encL w2 y _) (by have:=HA2.out.bel.size;simp;omega) (mid_small HN.out hL) ?_;intro v9 w9 hr9 hb9 hg9)
          have HA9:Hid (InsAt encL Lin.key 184 W0 w9 L x (i+1) v9):=Lib.hid ⟨by rw [HTK.out,G.midR_not HD.out HLT.out];exact hr9,(HA2.out.bel.trans (HB3.out.mono HA2.out.bel.size)).trans hb9,no_snoc HA2.out.no HY.out HYE.out⟩
          have HD9:Hid (G.doneR Lin.key (L.take (i+1)) x=false):=Lib.hid (by rw [HTK.out,G.doneR_snoc,HD.out];first | rfl | (rw [HLT.out];rfl))
          clear hr9 hb9 hg9 d0 d1 d2 q0 q1 q2
          go_wp2
          go_roundw
          case rel=>exact ⟨i+1,_,by omega,by go_num,rfl,by rw [HD9.out],HA9⟩
          case measure=>simp [intOf];omega
  ·have hnf:Hid (∀ (j:Nat) (y:Lin),L[j]?=some y→y.key≠x.key):=Lib.hid (fun j y hy=>HA.out.no j y (by have:=(List.getElem?_eq_some_iff.1 hy).1;rw [HN.out] at this;omega) hy)
   have hNN:Hid (N=if 1000≤n then 4 else 0):=Lib.hid (by rw [←HE.out,linE_not hnf.out,HN.out])
   have hTA:Hid (L.take i=L):=Lib.hid (List.take_of_length_le (by rw [HN.out];omega))
   rw [hTA.out]
   obtain ⟨D,hD⟩:∃ D,G.doneR Lin.key L x=D:=⟨_,rfl⟩
   have HD:=Lib.hid hD
   rw [hD]
   clear hD
   by_cases h60:1000≤n
   ·have HRS:Hid (N=4):=Lib.hid (by rw [hNN.out,if_pos h60])
    go_wp2
    go_ret2
    rw [HRS.out]
    exact ⟨_,rfl,fun _=>rfl,fun h=>absurd h (by decide),HB0.out.trans (HA.out.bel.mono HB0.out.size)⟩
   ·have HRS:Hid (N=0):=Lib.hid (by rw [hNN.out,if_neg h60])
    have HO:=Lib.hid HA.out.own
    rw [hTA.out] at HO
    cases D with
    | true =>
      go_wp2
      go_ret2
      rw [HRS.out]
      exact ⟨_,rfl,fun h=>absurd rfl h,fun _=>⟨_,by rw [←G.midR_end HD.out];exact row_base HO.out HB0.out.size⟩,HB0.out.trans (HA.out.bel.mono HB0.out.size)⟩
    | false =>
      obtain ⟨q0,q1,q2⟩:=lin3 ((HX0.out.keep HA.out.bel HX0.out.lt).at0)
      have HB3:=Lib.hid ((Below.refl wr.heap.size wr).alloc (Nat.le_refl _) (.cells (encL.cs x).toArray 184))
      go_wp2_with (at_builtin;refine wpList_append_el (E:=encL) rfl _ _ 35 184 rfl HI.out W0.heap.size _ x wr.heap.size (HO.out.alloc _) rfl (el_new encL wr x _) (by have:=HA.out.bel.size;simp;omega) (mid_small0 HN.out hL) ?_;intro v9 w9 hr9 hb9 hg9)
      have HO9:=Lib.hid hr9
      have HB9:=Lib.hid ((HA.out.bel.trans (HB3.out.mono HA.out.bel.size)).trans hb9)
      clear hr9 hb9 hg9 q0 q1 q2
      go_wp2
      go_ret2
      rw [HRS.out]
      exact ⟨_,rfl,fun h=>absurd rfl h,fun _=>⟨_,by rw [←G.midR_last HD.out];exact row_base HO9.out HB0.out.size⟩,HB0.out.trans (HB9.out.mono HB0.out.size)⟩
end Go.Proofs.YtfhhihamndbcnaaGreatDoor.Un
end
section
namespace Go.Proofs.YtfhhihamndbcnaaGreatDoor.Un
open Go.RowKit
section
variable {W0 wx wr w' w2:World} {B g:Nat} {vc vf ve vl v':Value} {M:Mast} {F:List Fl.Flow} {E:List Ent} {L:List Lin}
theorem set_grown (w:World) (g i:Nat) (v:Value):w.grownBy (w.setCell ⟨g,i,none⟩ v) (some g):=⟨rfl,rfl,rfl,by simp [World.setCell],fun k _ hk=>Below.heap_setCell w _ v k (fun e=>hk (by rw [e]))⟩
end
end Go.Proofs.YtfhhihamndbcnaaGreatDoor.Un
end
section
namespace Go.Proofs.YtfhhihamndbcnaaGreatDoor.Fl
open Go.RowKit
theorem parse_is {f:Flow} {ws:List ByteArray} (hr:rightF f=true) (h:wordsF f=ws):parseF ws=(f,0):=by rw [←h];exact parse_words hr
theorem parse_no {x c y:ByteArray} (h:∀ k:Nat,k < 5→¬ (rightF ⟨c,(k:Int)⟩=true∧wordsF ⟨c,(k:Int)⟩=[x,c,y])):parseF [x,c,y]=(zeroF,5):=by
 rcases parse_err [x,c,y] with h' | ⟨h1,h2,_⟩
 ·exact h'
 ·exfalso
  have hk:=(right_parts h2).2
  obtain ⟨f,hf⟩:∃ f,(parseF [x,c,y]).1=f:=⟨_,rfl⟩
  rw [hf] at h1 h2 hk
  have hc:f.code=c:=by
   rw [words_of h2] at h1
   simp only [List.cons.injEq] at h1
   exact h1.2.1
  obtain ⟨co,k⟩:=f
  simp only at hc hk
  subst hc
  refine h k.toNat (by omega) ?_
  rw [show ((k.toNat:Nat):Int)=k by omega]
  exact ⟨h2,h1⟩
set_option maxRecDepth 100000 in
set_option maxHeartbeats 8000000 in
theorem rparse_any (v:Value) (ws:List ByteArray) (w:World) (h:StrsV w v ws) :
 Calls Tryz.prog 88 #[v] w fun e w'=>e=.returned (.tuple #[aggL (parseF ws).1,.int .i64 (parseF ws).2])∧Below w.heap.size w w':=by
 have HV:=Lib.hid h
 obtain ⟨p,c,rfl,hcap,hm,hc⟩:=h
 have HB0:=Lib.hid ((Below.refl w.heap.size w).alloc (Nat.le_refl _) (.cells zc 140))
 have HX0:=Lib.hid (BoxE.new encF w zeroF 140)
 by_cases h3:ws.length=3
 ·match ws,h3 with
  | [x0,x1,x2],_ =>
    obtain ⟨b,o,e',k1⟩:=hc 1 x1 rfl
    cases e'
    have HK1:=Lib.hid k1
    obtain ⟨R,hR⟩:∃ R,parseF [x0,x1,x2]=R:=⟨_,rfl⟩
    rw [hR]
    have HR:=Lib.hid hR
    have HV0:Hid (StrsV w (.slice (some ⟨b,o,none⟩) 3 c) [x0,x1,x2]):=HV
    clear hc k1 hm hcap HV hR
    show Calls _ _ #[.slice (some ⟨b,o,none⟩) 3 c] _ _
    go_enter Tryz.func88,Tryz.ntmps88
    go_wp2
    go_loopw [4] (fun s4 wr=>∃ k:Nat,k≤5∧s4=.int .i64 (k:Int)∧Below w.heap.size w wr∧BoxE encF wr w.heap.size 140 zeroF∧Hid (∀ j:Nat,j < k→¬ (rightF ⟨x1,(j:Int)⟩=true∧wordsF ⟨x1,(j:Int)⟩=[x0,x1,x2]))) (fun s4 _=>5 - (intOf s4).toNat)
    case atStart=>exact ⟨0,by omega,rfl,HB0.out,HX0.out,Lib.hid fun j hj=>absurd hj (Nat.not_lt_zero _)⟩
    case round =>
     obtain ⟨k,hk5,rfl,hnx,hbx,HNO⟩:=hrel
     have HNX:=Lib.hid hnx
     have HBX:=Lib.hid hbx
     have HS:Hid (w.heap.size < wr.heap.size):=Lib.hid hbx.lt
     clear hnx hbx
     by_cases hlt:k < 5
     ·have c1:=cell_on HNX.out HK1.out
      obtain ⟨f,hf⟩:∃ f:Flow,(⟨x1,(k:Int)⟩:Flow)=f:=⟨_,rfl⟩
      have hba:=(Below.refl wr.heap.size wr).alloc (Nat.le_refl _) (.cells #[.string x1,.int .i64 (k:Int)] 140)
      have HNA:=Lib.hid (HNX.out.trans (hba.mono HNX.out.size))
      have HBA:=Lib.hid (HBX.out.kept hba)
      have HFA:=Lib.hid (BoxE.new encF wr ⟨x1,(k:Int)⟩ 140)
      obtain ⟨r,hr⟩:∃ r,rightF ⟨x1,(k:Int)⟩=r:=⟨_,rfl⟩
      have HRR:=Lib.hid (rright_any ⟨x1,(k:Int)⟩)
      rw [hr] at HRR
      have HRV:=Lib.hid hr
      clear hr hba hf
      go_wp2_with fail
      clear c1
      refine (HRR.out _).mono ?_
      rintro e w2 ⟨rfl,hb2⟩
      have HN2:=Lib.hid (HNA.out.trans (hb2.mono HNA.out.size))
      have HB2:=Lib.hid (HBA.out.kept hb2)
      have HF2:=Lib.hid (HFA.out.kept hb2)
      clear hb2 HNA HBA HFA
      cases r with
      | false =>
        go_wp2
        go_roundw
        case rel=>exact ⟨k+1,by omega,by go_num,HN2.out,HB2.out,Lib.hid fun j hj hh=>by
         rcases Nat.lt_or_ge j k with h | h
         ·exact HNO.out j h hh
         ·obtain rfl:j=k:=by omega
          rw [HRV.out] at hh;cases hh.1⟩
        case measure=>simp [intOf];omega
      | true =>
        obtain ⟨d0,d1⟩:=box HF2.out
        simp only at d0 d1
        go_wp2_with fail
        clear d0 d1
        refine (rwords_any ⟨x1,(k:Int)⟩ w2).mono ?_
        rintro e w3 ⟨v3,rfl,hs3,hb3⟩
        have HN3:=Lib.hid (HN2.out.trans (hb3.mono HN2.out.size))
        have HB3:=Lib.hid (HB2.out.kept hb3)
        have HF3:=Lib.hid (HF2.out.kept hb3)
        have HS3:=Lib.hid hs3
        have HV3:=Lib.hid (HV0.out.keep HN3.out)
        clear hb3 hs3 HN2 HB2 HF2
        go_wp2_with fail
        refine (sameWords_any _ _ _ _ _ HS3.out HV3.out).mono ?_
        rintro e w4 ⟨rfl,q,hq⟩
        have HN4:Hid (Below w.heap.size w w4):=Lib.hid (by rw [hq];exact below_drewN' HN3.out q)
        have HB4:Hid (BoxE encF w4 w.heap.size 140 zeroF):=Lib.hid (by rw [hq];exact HB3.out)
        have HF4:Hid (BoxE encF w4 wr.heap.size 140 ⟨x1,(k:Int)⟩):=Lib.hid (by rw [hq];exact HF3.out)
        clear hq
        by_cases hw:wordsF ⟨x1,(k:Int)⟩=[x0,x1,x2]
        ·have hsm:Hid (sameW (wordsF ⟨x1,(k:Int)⟩) [x0,x1,x2]=true):=Lib.hid (decide_eq_true hw)
         have hRR:Hid (R=(⟨x1,(k:Int)⟩,0)):=Lib.hid (by rw [←HR.out];exact parse_is HRV.out hw)
         rw [hsm.out]
         clear hw
         obtain ⟨d0,d1⟩:=box HF4.out
         simp only at d0 d1
         go_wp2_with (refine wpList_store_el (E:=encF) rfl 140 (.tmp 2) (.tmp 28) rfl w.heap.size zeroF ⟨x1,(k:Int)⟩ 140 rfl rfl HB4.out (by kernel_rfl) ?_;intro w8 hb8 hg8)
         have HF:=Lib.hid (HN4.out.grown hg8 HN4.out.size (fun j hj=>by cases hj;exact Nat.le_refl _))
         obtain ⟨t0,t1⟩:=box hb8
         simp only at t0 t1
         clear hb8 hg8
         refine bodyPost_ret (v:=.tuple #[aggL ⟨x1,(k:Int)⟩,.int .i64 0]) (by simp [results,Tryz.results88,go_sem,t0,t1]) rfl ⟨by rw [hRR.out],HF.out⟩
        ·have hsm:Hid (sameW (wordsF ⟨x1,(k:Int)⟩) [x0,x1,x2]=false):=Lib.hid (decide_eq_false hw)
         have HNW:=Lib.hid hw
         rw [hsm.out]
         clear hw
         go_wp2
         go_roundw
         case rel=>exact ⟨k+1,by omega,by go_num,HN4.out,HB4.out,Lib.hid fun j hj hh=>by
          rcases Nat.lt_or_ge j k with h | h
          ·exact HNO.out j h hh
          ·obtain rfl:j=k:=by omega
           exact HNW.out hh.2⟩
         case measure=>simp [intOf];omega
     ·obtain rfl:k=5:=by omega
      have hRR:Hid (R=(zeroF,5)):=Lib.hid (by rw [←HR.out];exact parse_no HNO.out)
      clear hlt
      go_wp2_with (refine wpList_store_el (E:=encF) rfl 140 (.tmp 2) (.tmp 29) rfl w.heap.size zeroF zeroF 140 rfl rfl HBX.out (by kernel_rfl) ?_;intro w8 hb8 hg8)
      have HF:=Lib.hid (HNX.out.grown hg8 HNX.out.size (fun j hj=>by cases hj;exact Nat.le_refl _))
      obtain ⟨t0,t1⟩:=box hb8
      clear hb8 hg8
      refine bodyPost_ret (v:=.tuple #[aggL zeroF,.int .i64 5]) (by simp [results,Tryz.results88,go_sem,t0,t1]) rfl ⟨by rw [hRR.out],HF.out⟩
 ·have HP:=Lib.hid (parse_len h3)
  rw [HP.out]
  obtain ⟨n,hn⟩:∃ n,ws.length=n:=⟨_,rfl⟩
  rw [hn] at h3 hcap hm ⊢
  unfold maxLen at hm
  have hnz:((n:Int)==3)=false:=by simp;omega
  clear hc hn h3 HV
  go_enter Tryz.func88,Tryz.ntmps88
  go_wp2
  refine wp_loop_rounds 1 ?_
  rw [rounds_succ]
  go_wp2
  refine bodyPost_ret (v:=.tuple #[aggL zeroF,.int .i64 5]) (by simp [results,Tryz.results88,go_sem,zeroF]) rfl ⟨rfl,HB0.out⟩
end Go.Proofs.YtfhhihamndbcnaaGreatDoor.Fl
end
