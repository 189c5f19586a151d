/- FlowDocAdd FlowDocParse UnitDocOne UnitDocAll LexRwords -/
import Derived.Test.YtdegffffcbhjbaaGreatDoorQ16
import Derived.Test.YtdegffffcbhjbaaGreatDoorQ17
section
namespace Go.Proofs.YtdegffffcbhjbaaGreatDoor.Un
open Go.RowKit
theorem info_rflow:InfoE Tryz.prog 32 147 Fl.encF :=
 InfoE.of (z:=.agg #[.string ⟨#[]⟩,.int .i64 0]) (n:=24) Tryz.underlying32 (by kernel_rfl) (by kernel_rfl) (by decide)
theorem placeF_eq:∀ (L:List Fl.Flow) (c:ByteArray),placeK Fl.Flow.code L c=G.placeK Fl.Flow.code L c
 | [],_=>rfl
 | a::L,c=>by
   have ih:=placeF_eq L c
   simp only [placeK,G.placeK]
   rw [ih];rfl
theorem insF_eq (L:List Fl.Flow) (x:Fl.Flow):insK Fl.Flow.code L x=G.insK Fl.Flow.code L x:=by
 unfold insK G.insK
 rw [placeF_eq]
theorem findF_eq:∀ (L:List Fl.Flow) (c:ByteArray),findK Fl.Flow.code L c=G.findK Fl.Flow.code L c
 | [],_=>rfl
 | a::L,c=>by
   have ih:=findF_eq L c
   simp only [findK,G.findK]
   rw [ih]
theorem insF_eqR {L:List Fl.Flow} {x:Fl.Flow} (hr:riseK Fl.Flow.code L=true) (h:Fl.findF L x.code=none):insK Fl.Flow.code L x=G.insR Fl.Flow.code L x:=by
 rw [insF_eq,G.insR_eq (by rw [←riseF_eq];exact hr) (by rw [←findF_eq];exact h)]
theorem noneF_all {L:List Fl.Flow} {c:ByteArray} (h:(Fl.findF L c).isSome=false):∀ (j:Nat) (y:Fl.Flow),L[j]?=some y→y.code≠c:=fun j y hy e=>by
 cases hf:Fl.findF L c with
 | some z=>rw [hf] at h;cases h
 | none=>exact findK_no hf y (List.mem_of_getElem? hy) e
set_option maxRecDepth 100000 in
set_option maxHeartbeats 8000000 in
theorem rfadd_any (v:Value) (L:List Fl.Flow) (x:Fl.Flow) (w:World) (h:Fl.FlowsV w v L) (hr:riseK Fl.Flow.code L=true) (hL:L.length≤1000) :
 Calls Tryz.prog 76 #[v,Fl.aggL x] w (ListTold Fl.encF w v (G.insR Fl.Flow.code L x) (Fl.addE L x)):=by
 have hB0:=(Below.refl w.heap.size w).alloc (Nat.le_refl _) (.cells (Fl.encF.cs x).toArray 147)
 have HX:=Lib.hid (BoxE.new Fl.encF w x 147)
 have HV:=Lib.hid (h.keep hB0)
 have HB:=Lib.hid hB0
 have HF:=Lib.hid (rkind_any v L x.code (w.alloc (.cells (Fl.encF.cs x).toArray 147)) HV.out)
 have HOF:=Lib.hid (fun W (hW:Fl.FlowsV W v L)=>Fl.rof_any v L x.kind W hW hL)
 obtain ⟨p,c,e,hcap,hm,_,hc⟩:=HV.out
 subst e
 obtain ⟨n,hn⟩:∃ n,L.length=n:=⟨_,rfl⟩
 rw [hn] at hcap hL HV HF HOF ⊢
 obtain ⟨FA,hFA⟩:∃ FA,kindO' (Fl.findF L x.code)=FA:=⟨_,rfl⟩
 obtain ⟨IS,hIS⟩:∃ IS,(Fl.findF L x.code).isSome=IS:=⟨_,rfl⟩
 rw [hFA,hIS] at HF
 obtain ⟨RT,hRT⟩:∃ RT,Fl.rightF x=RT:=⟨_,rfl⟩
 have HRI:=Lib.hid (Fl.rright_any x)
 rw [hRT] at HRI
 obtain ⟨OF,hOF⟩:∃ OF,Fl.ofF L x.kind=OF:=⟨_,rfl⟩
 rw [hOF] at HOF
 obtain ⟨m,hmm⟩:∃ m,OF.length=m:=⟨_,rfl⟩
 have hmb:m≤n:=by rw [←hmm,←hOF,←hn];exact Fl.ofF_len_le L _
 obtain ⟨N,hN⟩:∃ N,Fl.addE L x=N:=⟨_,rfl⟩
 rw [hN]
 have HNE:Hid (N=if RT=false then 1 else if (IS || (decide (x.kind≠1) && decide (0 < m)))=true then 7 else if 60≤n then 4 else 0):=Lib.hid (by
  rw [←hN,←hRT,←hIS,←hn,←hmm,←hOF,←(isK_find hr x.code).1];rfl)
 have HI:=Lib.hid info_rflow
 have HN:=Lib.hid hn
 have HMM:=Lib.hid hmm
 have HISV:=Lib.hid hIS
 unfold maxLen at hm
 obtain ⟨q0,q1⟩:=Fl.two HX.out.at0
 have HC0:=Lib.hid hc
 clear h hB0 hn hFA hIS hRT hN hc hmm hOF hr
 go_enter Tryz.func76,Tryz.ntmps76
 go_wp2_with fail
 refine HF.out.mono ?_
 rintro en w1 ⟨rfl,hb1⟩
 have HB1:=Lib.hid (HB.out.trans (hb1.mono HB.out.size))
 have HX1:=Lib.hid (HX.out.kept hb1)
 have HV1:=Lib.hid (HV.out.keep hb1)
 have HC1:=Lib.hid (els_keep HC0.out hb1)
 clear hb1 HF HB HX HV HC0 q0 q1
 obtain ⟨q0,q1⟩:=Fl.two HX1.out.at0
 go_wp2_with fail
 refine (HRI.out _).mono ?_
 rintro en w4 ⟨rfl,hb2⟩
 have HB2:=Lib.hid (HB1.out.trans (hb2.mono HB1.out.size))
 have HX2:=Lib.hid (HX1.out.kept hb2)
 have HV2:=Lib.hid (HV1.out.keep hb2)
 have HC2:=Lib.hid (els_keep HC1.out hb2)
 clear hb2 HX1 HV1 HB1 HC1 HRI q0 q1
 obtain ⟨q0,q1⟩:=Fl.two HX2.out.at0
 have hmz:(m:Int)≤1000:=by omega
 cases RT with
 | false =>
   have HRS:Hid (N=1):=Lib.hid (by rw [HNE.out,if_pos rfl])
   go_wp2
   go_ret2
   rw [HRS.out]
   exact ⟨_,rfl,fun _=>rfl,fun h=>absurd h (by decide),HB2.out⟩
 | true =>
   cases IS with
   | true =>
     have HRS:Hid (N=7):=Lib.hid (by rw [HNE.out];rfl)
     go_wp2
     go_ret2
     rw [HRS.out]
     exact ⟨_,rfl,fun _=>rfl,fun h=>absurd h (by decide),HB2.out⟩
   | false =>
     have HNO:=Lib.hid (noneF_all HISV.out)
     clear HISV
     by_cases hk:x.kind=1
     ·have hkz:(x.kind != 1)=false:=by simp [hk]
      have HKK:Hid (decide (x.kind≠1)=false):=Lib.hid (by simp [hk])
      clear hk
      have HX3:=HX2
      have HV3:=HV2
      have HB3:=HB2
      have HC:=HC2
      by_cases h60:60≤n
      ·have HRS:Hid (N=4):=Lib.hid (by rw [HNE.out];simp only [HKK.out,Bool.false_and,Bool.or_self,Bool.false_eq_true,Bool.true_eq_false,if_false];exact if_pos h60)
       go_wp2
       go_ret2
       rw [HRS.out]
       exact ⟨_,rfl,fun _=>rfl,fun h=>absurd h (by decide),HB3.out⟩
      ·have HRS:Hid (N=0):=Lib.hid (by rw [HNE.out];simp only [HKK.out,Bool.false_and,Bool.or_self,Bool.false_eq_true,Bool.true_eq_false,if_false];exact if_neg h60)
       have HST:Hid (InsAt Fl.encF Fl.Flow.code 147 w4 w4 L x 0 (.slice none 0 0)):=Lib.hid ⟨World.ownsRow_nil _ _ _ _,Below.refl _ _,fun j y _ hy=>HNO.out j y hy⟩
       go_wp2
       go_loopw [8,9,10] (fun s6 s7 s8 wr=>∃ (i:Nat) (v6:Value),i≤n∧s8=.int .i64 (i:Int)∧v6=s6∧s7=.bool (G.doneR Fl.Flow.code (L.take i) x)∧Hid (InsAt Fl.encF Fl.Flow.code 147 w4 wr L x i v6)) (fun _ _ s8 _=>n - (intOf s8).toNat)
       case atStart=>exact ⟨0,_,Nat.zero_le _,rfl,rfl,rfl,HST⟩
       case round =>
        obtain ⟨i,v6,hi,rfl,rfl,rfl,HA⟩:=hrel
        by_cases hlt:i < n
        ·obtain ⟨y,hy⟩:∃ y,L[i]?=some y:=⟨_,List.getElem?_eq_getElem (by rw [HN.out];exact hlt)⟩
         obtain ⟨b,o,rfl,hat⟩:=HC.out i y hy
         obtain ⟨d0,d1⟩:=Fl.two (hat.keep HA.out.bel hat.lt)
         obtain ⟨q0,q1⟩:=Fl.two ((HX3.out.keep HA.out.bel HX3.out.lt).at0)
         have HY:=Lib.hid hy
         have HAT:=Lib.hid hat
         have HTK:Hid (L.take (i+1)=L.take i++[y]):=Lib.hid (by rw [List.take_succ_eq_append_getElem (by rw [HN.out];exact hlt),(List.getElem?_eq_some_iff.1 hy).2])
         obtain ⟨D,hD⟩:∃ D,G.doneR Fl.Flow.code (L.take i) x=D:=⟨_,rfl⟩
         have HD:=Lib.hid hD
         rw [hD]
         clear hy hat hD
         have HYE:=Lib.hid (HNO.out i y HY.out)
         cases D with
         | true =>
           go_wp2_with fail
           go_big_quiet (fail)
           have HA2:=Lib.hid (HA.out.drewN nq)
           clear d0 d1 q0 q1 HA
           generalize wr.drewN nq=w2 at *
           obtain ⟨d0,d1⟩:=Fl.two (HAT.out.keep HA2.out.bel HAT.out.lt)
           obtain ⟨q0,q1⟩:=Fl.two ((HX3.out.keep HA2.out.bel HX3.out.lt).at0)
           have HBN:=Lib.hid ((Below.refl w2.heap.size w2).alloc (Nat.le_refl _) (.cells (Fl.encF.cs y).toArray 147))
           go_wp2_with (at_builtin;refine wpList_append_el (E:=Fl.encF) rfl _ _ 32 147 rfl HI.out w4.heap.size _ y w2.heap.size (HA2.out.own.alloc _) rfl (el_new Fl.encF w2 y _) (by have:=HA2.out.bel.size;simp;omega) (mid_small HN.out hL) ?_;intro v9 w9 hr9 hb9 hg9)
           have HA9:Hid (InsAt Fl.encF Fl.Flow.code 147 w4 w9 L x (i+1) v9):=Lib.hid ⟨by rw [HTK.out,G.midR_there y HD.out];exact hr9,(HA2.out.bel.trans (HBN.out.mono HA2.out.bel.size)).trans hb9,no_snoc HA2.out.no HY.out HYE.out⟩
           have HD9:Hid (G.doneR Fl.Flow.code (L.take (i+1)) x=true):=Lib.hid (by rw [HTK.out,G.doneR_snoc,HD.out];first | rfl | (rw [HLT.out];rfl))
           clear hr9 hb9 hg9 d0 d1 q0 q1
           go_wp2
           go_roundw
           case rel=>exact ⟨i+1,_,by omega,by go_num,rfl,by rw [HD9.out],HA9⟩
           case measure=>simp [intOf];omega
         | false =>
           cases hlx:gtS y.code x.code with
           | true =>
             have HLT:Hid (G.KeyO.lt (Fl.Flow.code x) (Fl.Flow.code y)=true):=Lib.hid ((gtS_iff _ _).1 hlx)
             unfold gtS ltS at hlx
             simp only [Bool.not_eq_true',Bool.or_eq_false_iff] at hlx
             obtain ⟨g1,g2⟩:=hlx
             go_wp2_with fail
             go_big_quiet (fail)
             clear g1 g2
             have HA2:=Lib.hid (HA.out.drewN nq)
             clear d0 d1 q0 q1 HA
             generalize wr.drewN nq=w2 at *
             obtain ⟨d0,d1⟩:=Fl.two (HAT.out.keep HA2.out.bel HAT.out.lt)
             obtain ⟨q0,q1⟩:=Fl.two ((HX3.out.keep HA2.out.bel HX3.out.lt).at0)
             have HBN:=Lib.hid ((Below.refl w2.heap.size w2).alloc (Nat.le_refl _) (.cells (Fl.encF.cs x).toArray 147))
             go_wp2_with (at_builtin;first
              | (refine wpList_append_el (E:=Fl.encF) rfl _ _ 32 147 rfl HI.out w4.heap.size _ x w2.heap.size (HA2.out.own.alloc _) rfl (el_new Fl.encF w2 x _) (by have:=HA2.out.bel.size;simp;omega) (mid_small HN.out hL) ?_;intro v8 w8 hr8 hb8 hg8;have HB8:Hid (Below w4.heap.size w4 w8):=Lib.hid ((HA2.out.bel.trans (HBN.out.mono HA2.out.bel.size)).trans hb8);have HO8:=Lib.hid hr8;have HB9:=Lib.hid ((Below.refl w8.heap.size w8).alloc (Nat.le_refl _) (.cells (Fl.encF.cs y).toArray 147));clear d0 d1 q0 q1 hr8 hb8 hg8;obtain ⟨d0,d1⟩:=Fl.two (HAT.out.keep HB8.out HAT.out.lt))
              | (refine wpList_append_el (E:=Fl.encF) rfl _ _ 32 147 rfl HI.out w4.heap.size _ y w8.heap.size (HO8.out.alloc _) rfl (el_new Fl.encF w8 y _) (by have:=HB8.out.size;simp;omega) (mid_small1 HN.out hL) ?_;intro v9 w9 hr9 hb9 hg9)
              | fail)
             have HA9:Hid (InsAt Fl.encF Fl.Flow.code 147 w4 w9 L x (i+1) v9):=Lib.hid ⟨by rw [HTK.out,G.midR_now HD.out HLT.out];exact hr9,(HB8.out.trans (HB9.out.mono HB8.out.size)).trans hb9,no_snoc HA2.out.no HY.out HYE.out⟩
             have HD9:Hid (G.doneR Fl.Flow.code (L.take (i+1)) x=true):=Lib.hid (by rw [HTK.out,G.doneR_snoc,HD.out,HLT.out];rfl)
             clear hr9 hb9 hg9 d0 d1
             go_wp2
             go_roundw
             case rel=>exact ⟨i+1,_,by omega,by go_num,rfl,by rw [HD9.out],HA9⟩
             case measure=>simp [intOf];omega
           | false =>
             have HLT:Hid (G.KeyO.lt (Fl.Flow.code x) (Fl.Flow.code y)=false):=Lib.hid (by
              cases hh:G.KeyO.lt (Fl.Flow.code x) (Fl.Flow.code y) with
              | false=>rfl
              | true=>rw [(gtS_iff y.code x.code).2 hh] at hlx;cases hlx)
             unfold gtS ltS at hlx
             simp only [Bool.not_eq_false'] at hlx
             go_wp2_with fail
             go_big_quiet (fail)
             clear hlx
             have HA2:=Lib.hid (HA.out.drewN nq)
             clear d0 d1 q0 q1 HA
             generalize wr.drewN nq=w2 at *
             obtain ⟨d0,d1⟩:=Fl.two (HAT.out.keep HA2.out.bel HAT.out.lt)
             obtain ⟨q0,q1⟩:=Fl.two ((HX3.out.keep HA2.out.bel HX3.out.lt).at0)
             have HBN:=Lib.hid ((Below.refl w2.heap.size w2).alloc (Nat.le_refl _) (.cells (Fl.encF.cs y).toArray 147))
             go_wp2_with (at_builtin;refine wpList_append_el (E:=Fl.encF) rfl _ _ 32 147 rfl HI.out w4.heap.size _ y w2.heap.size (HA2.out.own.alloc _) rfl (el_new Fl.encF w2 y _) (by have:=HA2.out.bel.size;simp;omega) (mid_small HN.out hL) ?_;intro v9 w9 hr9 hb9 hg9)
             have HA9:Hid (InsAt Fl.encF Fl.Flow.code 147 w4 w9 L x (i+1) v9):=Lib.hid ⟨by rw [HTK.out,G.midR_not HD.out HLT.out];exact hr9,(HA2.out.bel.trans (HBN.out.mono HA2.out.bel.size)).trans hb9,no_snoc HA2.out.no HY.out HYE.out⟩
             have HD9:Hid (G.doneR Fl.Flow.code (L.take (i+1)) x=false):=Lib.hid (by rw [HTK.out,G.doneR_snoc,HD.out];first | rfl | (rw [HLT.out];rfl))
             clear hr9 hb9 hg9 d0 d1 q0 q1
             go_wp2
             go_roundw
             case rel=>exact ⟨i+1,_,by omega,by go_num,rfl,by rw [HD9.out],HA9⟩
             case measure=>simp [intOf];omega
        ·have hTA:Hid (L.take i=L):=Lib.hid (List.take_of_length_le (by rw [HN.out];omega))
         rw [hTA.out]
         obtain ⟨D,hD⟩:∃ D,G.doneR Fl.Flow.code L x=D:=⟨_,rfl⟩
         have HD:=Lib.hid hD
         rw [hD]
         clear hD
         have HO:=Lib.hid HA.out.own
         rw [hTA.out] at HO
         cases D with
         | true =>
           go_wp2
           go_ret2
           rw [HRS.out]
           exact ⟨_,rfl,fun h=>absurd rfl h,fun _=>⟨_,by rw [←G.midR_end HD.out];exact row_base HO.out HB3.out.size⟩,HB3.out.trans (HA.out.bel.mono HB3.out.size)⟩
         | false =>
           obtain ⟨q0,q1⟩:=Fl.two ((HX3.out.keep HA.out.bel HX3.out.lt).at0)
           have HBN:=Lib.hid ((Below.refl wr.heap.size wr).alloc (Nat.le_refl _) (.cells (Fl.encF.cs x).toArray 147))
           go_wp2_with (at_builtin;refine wpList_append_el (E:=Fl.encF) rfl _ _ 32 147 rfl HI.out w4.heap.size _ x wr.heap.size (HO.out.alloc _) rfl (el_new Fl.encF wr x _) (by have:=HA.out.bel.size;simp;omega) (mid_small0 HN.out hL) ?_;intro v9 w9 hr9 hb9 hg9)
           have HO9:=Lib.hid hr9
           have HB9:=Lib.hid ((HA.out.bel.trans (HBN.out.mono HA.out.bel.size)).trans hb9)
           clear hr9 hb9 hg9 q0 q1
           go_wp2
           go_ret2
           rw [HRS.out]
           exact ⟨_,rfl,fun h=>absurd rfl h,fun _=>⟨_,by rw [←G.midR_last HD.out];exact row_base HO9.out HB3.out.size⟩,HB3.out.trans (HB9.out.mono HB3.out.size)⟩
     ·have hkz:(x.kind != 1)=true:=by simp [hk]
      have HKK:Hid (decide (x.kind≠1)=true):=Lib.hid (by simp [hk])
      clear hk
      go_wp2_with fail
      refine (HOF.out _ HV2.out).mono ?_
      rintro en w3 ⟨v3,rfl,⟨p3,c3,rfl,_,hm3,_⟩,hb3⟩
      rw [HMM.out] at hm3 ⊢
      have HB3:=Lib.hid (HB2.out.trans (hb3.mono HB2.out.size))
      have HX3:=Lib.hid (HX2.out.kept hb3)
      have HV3:=Lib.hid (HV2.out.keep hb3)
      have HC:=Lib.hid (els_keep HC2.out hb3)
      clear hb3 HX2 HV2 HB2 HC2 HOF q0 q1
      by_cases hm0:0 < m
      ·have hmp:decide ((0:Int) < (m:Int))=true:=decide_eq_true (by omega)
       have hmq:decide (0 < m)=true:=decide_eq_true hm0
       have HRS:Hid (N=7):=Lib.hid (by rw [HNE.out,HKK.out,decide_eq_true hm0];rfl)
       go_wp2
       go_ret2
       rw [HRS.out]
       exact ⟨_,rfl,fun _=>rfl,fun h=>absurd h (by decide),HB3.out⟩
      ·have hmp:decide ((0:Int) < (m:Int))=false:=decide_eq_false (by omega)
       have hmq:decide (0 < m)=false:=decide_eq_false hm0
       have HMZ:Hid (decide (0 < m)=false):=Lib.hid (decide_eq_false hm0)
       clear hm0
       by_cases h60:60≤n
       ·have HRS:Hid (N=4):=Lib.hid (by rw [HNE.out];simp only [HKK.out,HMZ.out,Bool.and_false,Bool.or_self,Bool.false_eq_true,Bool.true_eq_false,if_false];exact if_pos h60)
        go_wp2
        go_ret2
        rw [HRS.out]
        exact ⟨_,rfl,fun _=>rfl,fun h=>absurd h (by decide),HB3.out⟩
       ·have HRS:Hid (N=0):=Lib.hid (by rw [HNE.out];simp only [HKK.out,HMZ.out,Bool.and_false,Bool.or_self,Bool.false_eq_true,Bool.true_eq_false,if_false];exact if_neg h60)
        have HST:Hid (InsAt Fl.encF Fl.Flow.code 147 w3 w3 L x 0 (.slice none 0 0)):=Lib.hid ⟨World.ownsRow_nil _ _ _ _,Below.refl _ _,fun j y _ hy=>HNO.out j y hy⟩
        go_wp2
        go_loopw [8,9,10] (fun s6 s7 s8 wr=>∃ (i:Nat) (v6:Value),i≤n∧s8=.int .i64 (i:Int)∧v6=s6∧s7=.bool (G.doneR Fl.Flow.code (L.take i) x)∧Hid (InsAt Fl.encF Fl.Flow.code 147 w3 wr L x i v6)) (fun _ _ s8 _=>n - (intOf s8).toNat)
        case atStart=>exact ⟨0,_,Nat.zero_le _,rfl,rfl,rfl,HST⟩
        case round =>
         obtain ⟨i,v6,hi,rfl,rfl,rfl,HA⟩:=hrel
         by_cases hlt:i < n
         ·obtain ⟨y,hy⟩:∃ y,L[i]?=some y:=⟨_,List.getElem?_eq_getElem (by rw [HN.out];exact hlt)⟩
          obtain ⟨b,o,rfl,hat⟩:=HC.out i y hy
          obtain ⟨d0,d1⟩:=Fl.two (hat.keep HA.out.bel hat.lt)
          obtain ⟨q0,q1⟩:=Fl.two ((HX3.out.keep HA.out.bel HX3.out.lt).at0)
          have HY:=Lib.hid hy
          have HAT:=Lib.hid hat
          have HTK:Hid (L.take (i+1)=L.take i++[y]):=Lib.hid (by rw [List.take_succ_eq_append_getElem (by rw [HN.out];exact hlt),(List.getElem?_eq_some_iff.1 hy).2])
          obtain ⟨D,hD⟩:∃ D,G.doneR Fl.Flow.code (L.take i) x=D:=⟨_,rfl⟩
          have HD:=Lib.hid hD
          rw [hD]
          clear hy hat hD
          have HYE:=Lib.hid (HNO.out i y HY.out)
          cases D with
          | true =>
            go_wp2_with fail
            go_big_quiet (fail)
            have HA2:=Lib.hid (HA.out.drewN nq)
            clear d0 d1 q0 q1 HA
            generalize wr.drewN nq=w2 at *
            obtain ⟨d0,d1⟩:=Fl.two (HAT.out.keep HA2.out.bel HAT.out.lt)
            obtain ⟨q0,q1⟩:=Fl.two ((HX3.out.keep HA2.out.bel HX3.out.lt).at0)
            have HBN:=Lib.hid ((Below.refl w2.heap.size w2).alloc (Nat.le_refl _) (.cells (Fl.encF.cs y).toArray 147))
            go_wp2_with (at_builtin;refine wpList_append_el (E:=Fl.encF) rfl _ _ 32 147 rfl HI.out w3.heap.size _ y w2.heap.size (HA2.out.own.alloc _) rfl (el_new Fl.encF w2 y _) (by have:=HA2.out.bel.size;simp;omega) (mid_small HN.out hL) ?_;intro v9 w9 hr9 hb9 hg9)
            have HA9:Hid (InsAt Fl.encF Fl.Flow.code 147 w3 w9 L x (i+1) v9):=Lib.hid ⟨by rw [HTK.out,G.midR_there y HD.out];exact hr9,(HA2.out.bel.trans (HBN.out.mono HA2.out.bel.size)).trans hb9,no_snoc HA2.out.no HY.out HYE.out⟩
            have HD9:Hid (G.doneR Fl.Flow.code (L.take (i+1)) x=true):=Lib.hid (by rw [HTK.out,G.doneR_snoc,HD.out];first | rfl | (rw [HLT.out];rfl))
            clear hr9 hb9 hg9 d0 d1 q0 q1
            go_wp2
            go_roundw
            case rel=>exact ⟨i+1,_,by omega,by go_num,rfl,by rw [HD9.out],HA9⟩
            case measure=>simp [intOf];omega
          | false =>
            cases hlx:gtS y.code x.code with
            | true =>
              have HLT:Hid (G.KeyO.lt (Fl.Flow.code x) (Fl.Flow.code y)=true):=Lib.hid ((gtS_iff _ _).1 hlx)
              unfold gtS ltS at hlx
              simp only [Bool.not_eq_true',Bool.or_eq_false_iff] at hlx
              obtain ⟨g1,g2⟩:=hlx
              go_wp2_with fail
              go_big_quiet (fail)
              clear g1 g2
              have HA2:=Lib.hid (HA.out.drewN nq)
              clear d0 d1 q0 q1 HA
              generalize wr.drewN nq=w2 at *
              obtain ⟨d0,d1⟩:=Fl.two (HAT.out.keep HA2.out.bel HAT.out.lt)
              obtain ⟨q0,q1⟩:=Fl.two ((HX3.out.keep HA2.out.bel HX3.out.lt).at0)
              have HBN:=Lib.hid ((Below.refl w2.heap.size w2).alloc (Nat.le_refl _) (.cells (Fl.encF.cs x).toArray 147))
              go_wp2_with (at_builtin;first
               | (refine wpList_append_el (E:=Fl.encF) rfl _ _ 32 147 rfl HI.out w3.heap.size _ x w2.heap.size (HA2.out.own.alloc _) rfl (el_new Fl.encF w2 x _) (by have:=HA2.out.bel.size;simp;omega) (mid_small HN.out hL) ?_;intro v8 w8 hr8 hb8 hg8;have HB8:Hid (Below w3.heap.size w3 w8):=Lib.hid ((HA2.out.bel.trans (HBN.out.mono HA2.out.bel.size)).trans hb8);have HO8:=Lib.hid hr8;have HB9:=Lib.hid ((Below.refl w8.heap.size w8).alloc (Nat.le_refl _) (.cells (Fl.encF.cs y).toArray 147));clear d0 d1 q0 q1 hr8 hb8 hg8;obtain ⟨d0,d1⟩:=Fl.two (HAT.out.keep HB8.out HAT.out.lt))
               | (refine wpList_append_el (E:=Fl.encF) rfl _ _ 32 147 rfl HI.out w3.heap.size _ y w8.heap.size (HO8.out.alloc _) rfl (el_new Fl.encF w8 y _) (by have:=HB8.out.size;simp;omega) (mid_small1 HN.out hL) ?_;intro v9 w9 hr9 hb9 hg9)
               | fail)
              have HA9:Hid (InsAt Fl.encF Fl.Flow.code 147 w3 w9 L x (i+1) v9):=Lib.hid ⟨by rw [HTK.out,G.midR_now HD.out HLT.out];exact hr9,(HB8.out.trans (HB9.out.mono HB8.out.size)).trans hb9,no_snoc HA2.out.no HY.out HYE.out⟩
              have HD9:Hid (G.doneR Fl.Flow.code (L.take (i+1)) x=true):=Lib.hid (by rw [HTK.out,G.doneR_snoc,HD.out,HLT.out];rfl)
              clear hr9 hb9 hg9 d0 d1
              go_wp2
              go_roundw
              case rel=>exact ⟨i+1,_,by omega,by go_num,rfl,by rw [HD9.out],HA9⟩
              case measure=>simp [intOf];omega
            | false =>
              have HLT:Hid (G.KeyO.lt (Fl.Flow.code x) (Fl.Flow.code y)=false):=Lib.hid (by
               cases hh:G.KeyO.lt (Fl.Flow.code x) (Fl.Flow.code y) with
               | false=>rfl
               | true=>rw [(gtS_iff y.code x.code).2 hh] at hlx;cases hlx)
              unfold gtS ltS at hlx
              simp only [Bool.not_eq_false'] at hlx
              go_wp2_with fail
              go_big_quiet (fail)
              clear hlx
              have HA2:=Lib.hid (HA.out.drewN nq)
              clear d0 d1 q0 q1 HA
              generalize wr.drewN nq=w2 at *
              obtain ⟨d0,d1⟩:=Fl.two (HAT.out.keep HA2.out.bel HAT.out.lt)
              obtain ⟨q0,q1⟩:=Fl.two ((HX3.out.keep HA2.out.bel HX3.out.lt).at0)
              have HBN:=Lib.hid ((Below.refl w2.heap.size w2).alloc (Nat.le_refl _) (.cells (Fl.encF.cs y).toArray 147))
              go_wp2_with (at_builtin;refine wpList_append_el (E:=Fl.encF) rfl _ _ 32 147 rfl HI.out w3.heap.size _ y w2.heap.size (HA2.out.own.alloc _) rfl (el_new Fl.encF w2 y _) (by have:=HA2.out.bel.size;simp;omega) (mid_small HN.out hL) ?_;intro v9 w9 hr9 hb9 hg9)
              have HA9:Hid (InsAt Fl.encF Fl.Flow.code 147 w3 w9 L x (i+1) v9):=Lib.hid ⟨by rw [HTK.out,G.midR_not HD.out HLT.out];exact hr9,(HA2.out.bel.trans (HBN.out.mono HA2.out.bel.size)).trans hb9,no_snoc HA2.out.no HY.out HYE.out⟩
              have HD9:Hid (G.doneR Fl.Flow.code (L.take (i+1)) x=false):=Lib.hid (by rw [HTK.out,G.doneR_snoc,HD.out];first | rfl | (rw [HLT.out];rfl))
              clear hr9 hb9 hg9 d0 d1 q0 q1
              go_wp2
              go_roundw
              case rel=>exact ⟨i+1,_,by omega,by go_num,rfl,by rw [HD9.out],HA9⟩
              case measure=>simp [intOf];omega
         ·have hTA:Hid (L.take i=L):=Lib.hid (List.take_of_length_le (by rw [HN.out];omega))
          rw [hTA.out]
          obtain ⟨D,hD⟩:∃ D,G.doneR Fl.Flow.code L x=D:=⟨_,rfl⟩
          have HD:=Lib.hid hD
          rw [hD]
          clear hD
          have HO:=Lib.hid HA.out.own
          rw [hTA.out] at HO
          cases D with
          | true =>
            go_wp2
            go_ret2
            rw [HRS.out]
            exact ⟨_,rfl,fun h=>absurd rfl h,fun _=>⟨_,by rw [←G.midR_end HD.out];exact row_base HO.out HB3.out.size⟩,HB3.out.trans (HA.out.bel.mono HB3.out.size)⟩
          | false =>
            obtain ⟨q0,q1⟩:=Fl.two ((HX3.out.keep HA.out.bel HX3.out.lt).at0)
            have HBN:=Lib.hid ((Below.refl wr.heap.size wr).alloc (Nat.le_refl _) (.cells (Fl.encF.cs x).toArray 147))
            go_wp2_with (at_builtin;refine wpList_append_el (E:=Fl.encF) rfl _ _ 32 147 rfl HI.out w3.heap.size _ x wr.heap.size (HO.out.alloc _) rfl (el_new Fl.encF wr x _) (by have:=HA.out.bel.size;simp;omega) (mid_small0 HN.out hL) ?_;intro v9 w9 hr9 hb9 hg9)
            have HO9:=Lib.hid hr9
            have HB9:=Lib.hid ((HA.out.bel.trans (HBN.out.mono HA.out.bel.size)).trans hb9)
            clear hr9 hb9 hg9 q0 q1
            go_wp2
            go_ret2
            rw [HRS.out]
            exact ⟨_,rfl,fun h=>absurd rfl h,fun _=>⟨_,by rw [←G.midR_last HD.out];exact row_base HO9.out HB3.out.size⟩,HB3.out.trans (HB9.out.mono HB3.out.size)⟩
end Go.Proofs.YtdegffffcbhjbaaGreatDoor.Un
end
section
namespace Go.Proofs.YtdegffffcbhjbaaGreatDoor.Fl
open Go.RowKit
theorem parse_is {f:Flow} {ws:List ByteArray} (hr:rightF f=true) (h:wordsF f=ws):parseF ws=(f,0):=by rw [←h];exact parse_words hr
theorem parse_no {x c y:ByteArray} (h:∀ k:Nat,k < 5→¬ (rightF ⟨c,(k:Int)⟩=true∧wordsF ⟨c,(k:Int)⟩=[x,c,y])):parseF [x,c,y]=(zeroF,5):=by
 rcases parse_err [x,c,y] with h' | ⟨h1,h2,_⟩
 ·exact h'
 ·exfalso
  have hk:=(right_parts h2).2
  obtain ⟨f,hf⟩:∃ f,(parseF [x,c,y]).1=f:=⟨_,rfl⟩
  rw [hf] at h1 h2 hk
  have hc:f.code=c:=by
   rw [words_of h2] at h1
   simp only [List.cons.injEq] at h1
   exact h1.2.1
  obtain ⟨co,k⟩:=f
  simp only at hc hk
  subst hc
  refine h k.toNat (by omega) ?_
  rw [show ((k.toNat:Nat):Int)=k by omega]
  exact ⟨h2,h1⟩
set_option maxRecDepth 100000 in
set_option maxHeartbeats 8000000 in
theorem rparse_any (v:Value) (ws:List ByteArray) (w:World) (h:StrsV w v ws) :
 Calls Tryz.prog 75 #[v] w fun e w'=>e=.returned (.tuple #[aggL (parseF ws).1,.int .i64 (parseF ws).2])∧Below w.heap.size w w':=by
 have HV:=Lib.hid h
 obtain ⟨p,c,rfl,hcap,hm,hc⟩:=h
 have HB0:=Lib.hid ((Below.refl w.heap.size w).alloc (Nat.le_refl _) (.cells zc 147))
 have HX0:=Lib.hid (BoxE.new encF w zeroF 147)
 by_cases h3:ws.length=3
 ·match ws,h3 with
  | [x0,x1,x2],_ =>
    obtain ⟨b,o,e',k1⟩:=hc 1 x1 rfl
    cases e'
    have HK1:=Lib.hid k1
    obtain ⟨R,hR⟩:∃ R,parseF [x0,x1,x2]=R:=⟨_,rfl⟩
    rw [hR]
    have HR:=Lib.hid hR
    have HV0:Hid (StrsV w (.slice (some ⟨b,o,none⟩) 3 c) [x0,x1,x2]):=HV
    clear hc k1 hm hcap HV hR
    show Calls _ _ #[.slice (some ⟨b,o,none⟩) 3 c] _ _
    go_enter Tryz.func75,Tryz.ntmps75
    go_wp2
    go_loopw [4] (fun s4 wr=>∃ k:Nat,k≤5∧s4=.int .i64 (k:Int)∧Below w.heap.size w wr∧BoxE encF wr w.heap.size 147 zeroF∧Hid (∀ j:Nat,j < k→¬ (rightF ⟨x1,(j:Int)⟩=true∧wordsF ⟨x1,(j:Int)⟩=[x0,x1,x2]))) (fun s4 _=>5 - (intOf s4).toNat)
    case atStart=>exact ⟨0,by omega,rfl,HB0.out,HX0.out,Lib.hid fun j hj=>absurd hj (Nat.not_lt_zero _)⟩
    case round =>
     obtain ⟨k,hk5,rfl,hnx,hbx,HNO⟩:=hrel
     have HNX:=Lib.hid hnx
     have HBX:=Lib.hid hbx
     have HS:Hid (w.heap.size < wr.heap.size):=Lib.hid hbx.lt
     clear hnx hbx
     by_cases hlt:k < 5
     ·have c1:=cell_on HNX.out HK1.out
      obtain ⟨f,hf⟩:∃ f:Flow,(⟨x1,(k:Int)⟩:Flow)=f:=⟨_,rfl⟩
      have hba:=(Below.refl wr.heap.size wr).alloc (Nat.le_refl _) (.cells #[.string x1,.int .i64 (k:Int)] 147)
      have HNA:=Lib.hid (HNX.out.trans (hba.mono HNX.out.size))
      have HBA:=Lib.hid (HBX.out.kept hba)
      have HFA:=Lib.hid (BoxE.new encF wr ⟨x1,(k:Int)⟩ 147)
      obtain ⟨r,hr⟩:∃ r,rightF ⟨x1,(k:Int)⟩=r:=⟨_,rfl⟩
      have HRR:=Lib.hid (rright_any ⟨x1,(k:Int)⟩)
      rw [hr] at HRR
      have HRV:=Lib.hid hr
      clear hr hba hf
      go_wp2_with fail
      clear c1
      refine (HRR.out _).mono ?_
      rintro e w2 ⟨rfl,hb2⟩
      have HN2:=Lib.hid (HNA.out.trans (hb2.mono HNA.out.size))
      have HB2:=Lib.hid (HBA.out.kept hb2)
      have HF2:=Lib.hid (HFA.out.kept hb2)
      clear hb2 HNA HBA HFA
      cases r with
      | false =>
        go_wp2
        go_roundw
        case rel=>exact ⟨k+1,by omega,by go_num,HN2.out,HB2.out,Lib.hid fun j hj hh=>by
         rcases Nat.lt_or_ge j k with h | h
         ·exact HNO.out j h hh
         ·obtain rfl:j=k:=by omega
          rw [HRV.out] at hh;cases hh.1⟩
        case measure=>simp [intOf];omega
      | true =>
        obtain ⟨d0,d1⟩:=box HF2.out
        simp only at d0 d1
        go_wp2_with fail
        clear d0 d1
        refine (rwords_any ⟨x1,(k:Int)⟩ w2).mono ?_
        rintro e w3 ⟨v3,rfl,hs3,hb3⟩
        have HN3:=Lib.hid (HN2.out.trans (hb3.mono HN2.out.size))
        have HB3:=Lib.hid (HB2.out.kept hb3)
        have HF3:=Lib.hid (HF2.out.kept hb3)
        have HS3:=Lib.hid hs3
        have HV3:=Lib.hid (HV0.out.keep HN3.out)
        clear hb3 hs3 HN2 HB2 HF2
        go_wp2_with fail
        refine (sameWords_any _ _ _ _ _ HS3.out HV3.out).mono ?_
        rintro e w4 ⟨rfl,q,hq⟩
        have HN4:Hid (Below w.heap.size w w4):=Lib.hid (by rw [hq];exact below_drewN' HN3.out q)
        have HB4:Hid (BoxE encF w4 w.heap.size 147 zeroF):=Lib.hid (by rw [hq];exact HB3.out)
        have HF4:Hid (BoxE encF w4 wr.heap.size 147 ⟨x1,(k:Int)⟩):=Lib.hid (by rw [hq];exact HF3.out)
        clear hq
        by_cases hw:wordsF ⟨x1,(k:Int)⟩=[x0,x1,x2]
        ·have hsm:Hid (sameW (wordsF ⟨x1,(k:Int)⟩) [x0,x1,x2]=true):=Lib.hid (decide_eq_true hw)
         have hRR:Hid (R=(⟨x1,(k:Int)⟩,0)):=Lib.hid (by rw [←HR.out];exact parse_is HRV.out hw)
         rw [hsm.out]
         clear hw
         obtain ⟨d0,d1⟩:=box HF4.out
         simp only at d0 d1
         go_wp2_with (refine wpList_store_el (E:=encF) rfl 147 (.tmp 2) (.tmp 28) rfl w.heap.size zeroF ⟨x1,(k:Int)⟩ 147 rfl rfl HB4.out (by kernel_rfl) ?_;intro w8 hb8 hg8)
         have HF:=Lib.hid (HN4.out.grown hg8 HN4.out.size (fun j hj=>by cases hj;exact Nat.le_refl _))
         obtain ⟨t0,t1⟩:=box hb8
         simp only at t0 t1
         clear hb8 hg8
         refine bodyPost_ret (v:=.tuple #[aggL ⟨x1,(k:Int)⟩,.int .i64 0]) (by simp [results,Tryz.results75,go_sem,t0,t1]) rfl ⟨by rw [hRR.out],HF.out⟩
        ·have hsm:Hid (sameW (wordsF ⟨x1,(k:Int)⟩) [x0,x1,x2]=false):=Lib.hid (decide_eq_false hw)
         have HNW:=Lib.hid hw
         rw [hsm.out]
         clear hw
         go_wp2
         go_roundw
         case rel=>exact ⟨k+1,by omega,by go_num,HN4.out,HB4.out,Lib.hid fun j hj hh=>by
          rcases Nat.lt_or_ge j k with h | h
          ·exact HNO.out j h hh
          ·obtain rfl:j=k:=by omega
           exact HNW.out hh.2⟩
         case measure=>simp [intOf];omega
     ·obtain rfl:k=5:=by omega
      have hRR:Hid (R=(zeroF,5)):=Lib.hid (by rw [←HR.out];exact parse_no HNO.out)
      clear hlt
      go_wp2_with (refine wpList_store_el (E:=encF) rfl 147 (.tmp 2) (.tmp 29) rfl w.heap.size zeroF zeroF 147 rfl rfl HBX.out (by kernel_rfl) ?_;intro w8 hb8 hg8)
      have HF:=Lib.hid (HNX.out.grown hg8 HNX.out.size (fun j hj=>by cases hj;exact Nat.le_refl _))
      obtain ⟨t0,t1⟩:=box hb8
      clear hb8 hg8
      refine bodyPost_ret (v:=.tuple #[aggL zeroF,.int .i64 5]) (by simp [results,Tryz.results75,go_sem,t0,t1]) rfl ⟨by rw [hRR.out],HF.out⟩
 ·have HP:=Lib.hid (parse_len h3)
  rw [HP.out]
  obtain ⟨n,hn⟩:∃ n,ws.length=n:=⟨_,rfl⟩
  rw [hn] at h3 hcap hm ⊢
  unfold maxLen at hm
  have hnz:((n:Int)==3)=false:=by simp;omega
  clear hc hn h3 HV
  go_enter Tryz.func75,Tryz.ntmps75
  go_wp2
  refine wp_loop_rounds 1 ?_
  rw [rounds_succ]
  go_wp2
  refine bodyPost_ret (v:=.tuple #[aggL zeroF,.int .i64 5]) (by simp [results,Tryz.results75,go_sem,zeroF]) rfl ⟨rfl,HB0.out⟩
end Go.Proofs.YtdegffffcbhjbaaGreatDoor.Fl
end
section
namespace Go.Proofs.YtdegffffcbhjbaaGreatDoor.Un
open Go.RowKit
theorem step_account {M:Mast} {ws:List ByteArray} (h0:wd ws 0=tAccount):stepE M ws=(if (parseA ws).2=0 then addE M.chart (parseA ws).1 else (parseA ws).2)∧stepV M ws={ M with chart:=insL M.chart (parseA ws).1 }:=by
 refine ⟨?_,?_⟩
 ·unfold stepE;rw [if_pos h0]
 ·unfold stepV;rw [if_pos h0]
theorem step_flow {M:Mast} {ws:List ByteArray} (h0:wd ws 0=Fl.tFlow):stepE M ws=(if (Fl.parseF ws).2=0 then Fl.addE M.flows (Fl.parseF ws).1 else (Fl.parseF ws).2)∧stepV M ws={ M with flows:=insK Fl.Flow.code M.flows (Fl.parseF ws).1 }:=by
 refine ⟨?_,?_⟩
 ·unfold stepE;rw [if_neg (by rw [h0];decide),if_pos h0]
 ·unfold stepV;rw [if_neg (by rw [h0];decide),if_pos h0]
set_option maxRecDepth 100000 in
set_option maxHeartbeats 16000000 in
theorem one_account (v c f e l:Value) (ws:List ByteArray) (M:Mast) (w:World) (hm:MastIn w c f e l M) (hs:Sane M) (hv:StrsV w v ws) (hx:ws[0]?=some tAccount) :
 Calls Tryz.prog 47 #[aggM c f e l M,v] w (OneTold w c f e l M ws):=by
 obtain ⟨pc,cc,ec,_⟩:=hm.chart
 subst ec
 have hlen:M.chart.length≤1000:=by have:=hs.lc;omega
 have HS:=Lib.hid (two_start w hm)
 have HPR:=Lib.hid (rparse_any v ws (two0 w (.slice pc M.chart.length cc) f e l M) (hv.keep HS.out.bel))
 have HM:=Lib.hid hm
 have HO:=Lib.hid (ones_of hm)
 obtain ⟨s1,s2⟩:=step_account (M:=M) (ws:=ws) (wd_of hx)
 obtain ⟨A,hA⟩:∃ A,(parseA ws).1=A:=⟨_,rfl⟩
 obtain ⟨n1,hn1⟩:∃ n,(parseA ws).2=n:=⟨_,rfl⟩
 rw [hA,hn1] at HPR s1
 rw [hA] at s2
 obtain ⟨n,hn⟩:∃ n,addE M.chart A=n:=⟨_,rfl⟩
 obtain ⟨R,hR⟩:∃ R,G.insR Acct.code M.chart A=R:=⟨_,rfl⟩
 rw [hn] at s1
 rw [insL_eqR,hR] at s2
 have HCA:=Lib.hid (fun W h=>rcadd_any (.slice pc M.chart.length cc) M.chart A W h hlen)
 rw [hn,hR] at HCA
 obtain ⟨N,hN⟩:∃ N,stepE M ws=N:=⟨_,rfl⟩
 have HNE:=Lib.hid s1
 have HV2:=Lib.hid s2
 rw [hN] at HNE
 unfold OneTold
 rw [hN]
 obtain ⟨p,cp,rfl,hcap,hml,hc⟩:=hv
 obtain ⟨g,o,rfl,x0⟩:=hc 0 tAccount hx
 rw [Nat.add_zero] at x0
 have y0:=cell_later HS.out.bel x0
 obtain ⟨nw,hnw⟩:∃ nw,ws.length=nw:=⟨_,rfl⟩
 have hw0:0 < nw:=by rw [←hnw];exact (List.getElem?_eq_some_iff.1 hx).1
 rw [hnw] at HPR hcap hml ⊢
 have gt:(tAccount.toList==[97,99,99,111,117,110,116])=true:=by rw [qAccount];decide
 clear hm hs hc hx hlen s1 s2 hA hn1 hn hR hN x0 hnw
 go_enter Tryz.func47,Tryz.ntmps47
 go_wp2_with fail
 refine HPR.out.mono ?_
 rintro en w1 ⟨rfl,hb1⟩
 have HS1:=Lib.hid (HS.out.below hb1)
 have HBA:=Lib.hid ((Below.refl w1.heap.size w1).alloc (Nat.le_refl _) (.cells (encA.cs zeroA).toArray 107))
 clear hb1 y0 gt
 by_cases h1:n1=0
 ·subst h1
  have HNN:Hid (N=n):=Lib.hid (by rw [HNE.out,if_pos rfl])
  go_wp2_with (refine wpList_store_acct rfl 107 (.tmp 6) (.tmp 22) rfl w1.heap.size zeroA A 107 rfl rfl (BoxA.new w1 zeroA _) (by kernel_rfl) ?_;intro w2 hb2 hg2;have HG2:Hid (Below w1.heap.size w1 w2):=Lib.hid (HBA.out.grown hg2 HBA.out.size (fun j hj=>by cases hj;exact Nat.le_refl _));have HX2:=Lib.hid hb2;clear hb2 hg2;have HS2:=Lib.hid (HS1.out.below HG2.out);have hk:=HS2.out.box.nine.c0;obtain ⟨q0,q1,q2,q3,q4,q5⟩:=HX2.out.facts)
  refine (HCA.out w2 (chart_els.1 HS2.out.mast.chart)).mono ?_
  rintro en w3 ⟨v3,rfl,ho3,hn3,hb3⟩
  obtain ⟨p3,m3,cp3,rfl⟩:=told_shape ho3 hn3
  have HO3:=Lib.hid ho3
  have HN3:=Lib.hid hn3
  have HS3:=Lib.hid (HS2.out.below hb3)
  have hB2:=HS2.out.bel.size
  have hk3:=HS3.out.box.nine.c0
  have hf3:=boxM_free HS3.out.box 0
  obtain ⟨W2,hW2⟩:∃ W2,w3.setCell ⟨w.heap.size,0,none⟩ (.slice p3 m3 cp3)=W2:=⟨_,rfl⟩
  have HG4:Hid (w3.grownBy W2 (some w.heap.size)):=Lib.hid (by rw [←hW2];exact set_grown w3 w.heap.size 0 (.slice p3 m3 cp3))
  have HW2:Hid (Below w.heap.size w W2):=Lib.hid (by rw [←hW2];exact set_below HS3.out.bel 0 _)
  obtain ⟨M2,hM2⟩:∃ M2:Mast,{ M with chart:=R }=M2:=⟨_,rfl⟩
  have HB2:Hid (BoxM W2 w.heap.size 36 (.slice p3 m3 cp3) f e l M2):=Lib.hid (by rw [←hW2,←hM2];exact box_set HS3.out.box rfl)
  have HR2:Hid (BoxM W2 (w.heap.size+1) 36 nil4 nil4 nil4 nil4 zeroM):=Lib.hid ((HG4.out.block _ HS3.out.res.lt (by simp)).trans HS3.out.res)
  have HM2:Hid (M2.flows=M.flows∧M2.ents=M.ents∧M2.lines=M.lines∧M2.chart=R):=Lib.hid (by rw [←hM2];exact ⟨rfl,rfl,rfl,rfl⟩)
  have HMM:=Lib.hid hM2
  have HO2:Hid (Ones (.slice p3 m3 cp3) f e l):=Lib.hid ⟨rfl,HO.out.f,HO.out.e,HO.out.l⟩
  clear ho3 hn3 hb3 hM2 hk q0 q1 q2 q3 q4 q5
  obtain ⟨k0,k1,k2,k3,k4,k5,k6,k7,k8⟩:=HB2.out.nine
  go_wp2_with (refine wpList_store_mast rfl 36 (.tmp 4) (.tmp 37) rfl (w.heap.size+1) nil4 nil4 nil4 nil4 (.slice p3 m3 cp3) f e l zeroM M2 36 rfl rfl HR2.out HO2.out (by kernel_rfl) ?_;intro w4 hb4 hg4)
  clear k0 k1 k2 k3 k4 k5 k6 k7 k8 hk3 hf3 hW2
  have HBG:=Lib.hid (HW2.out.grown hg4 HW2.out.size (fun j hj=>by cases hj;exact Nat.le_succ _))
  have HX4:Hid (n=0→ElsV encA w4 (.slice p3 m3 cp3) M2.chart):=Lib.hid (fun h0=>by
   obtain ⟨t,hr⟩:=HN3.out h0
   have h2:=(hr.kept HG4.out (.inr (fun e0=>by
    rcases hr.2 with ⟨e,_⟩ | ⟨g',_,_,e,hge,_⟩
    ·cases e;simp [Value.ownBlock] at e0
    ·cases e
     have h3:g'=w.heap.size:=by simpa [Value.ownBlock] using e0
     have:=HS2.out.box.lt
     omega))).kept hg4 (.inr (fun e0=>by
    rcases hr.2 with ⟨e,_⟩ | ⟨g',_,_,e,hge,_⟩
    ·cases e;simp [Value.ownBlock] at e0
    ·cases e
     have h3:g'=w.heap.size+1:=by simpa [Value.ownBlock] using e0
     have:=HS2.out.res.lt
     omega))
   rw [HM2.out.2.2.2]
   exact els_of_own h2)
  obtain ⟨c0,c1,c2,c3,c4,c5,c6,c7,c8⟩:=hb4.nine
  clear hb4 hg4
  refine bodyPost_ret (v:=.tuple #[aggM (.slice p3 m3 cp3) f e l M2,.int .i64 n]) (by simp [results,Tryz.results47,go_sem,c0,c1,c2,c3,c4,c5,c6,c7,c8]) rfl ⟨_,_,_,_,M2,by rw [HNN.out],fun h0=>⟨?_,?_⟩,HO2.out,⟨Off1.told HO3.out HN3.out HS2.out.bel.size,Off1.refl _ _,Off1.refl _ _,Off1.refl _ _⟩,HBG.out⟩
  ·rw [HV2.out];exact HMM.out.symm
  ·have hk:=HM.out.keep HBG.out
   obtain ⟨m1,m2,m3,_⟩:=HM2.out
   exact ⟨chart_els.2 (HX4.out (by rw [←HNN.out];exact h0)),by rw [m1];exact hk.flows,by rw [m2];exact hk.ents,by rw [m3];exact hk.lines⟩
 ·have HNN:Hid (N=n1):=Lib.hid (by rw [HNE.out,if_neg h1])
  have h1z:(n1 != 0)=true:=by simp [h1]
  go_wp2_with (first
   | (refine wpList_store_acct rfl 107 (.tmp 6) (.tmp 22) rfl w1.heap.size zeroA A 107 rfl rfl (BoxA.new w1 zeroA _) (by kernel_rfl) ?_;intro w2 hb2 hg2;have HG2:Hid (Below w1.heap.size w1 w2):=Lib.hid (HBA.out.grown hg2 HBA.out.size (fun j hj=>by cases hj;exact Nat.le_refl _));have HX2:=Lib.hid hb2;clear hb2 hg2;have HS2:=Lib.hid (HS1.out.below HG2.out);obtain ⟨k0,k1,k2,k3,k4,k5,k6,k7,k8⟩:=HS2.out.box.nine)
   | (refine wpList_store_mast rfl 36 (.tmp 4) (.tmp 26) rfl (w.heap.size+1) nil4 nil4 nil4 nil4 (.slice pc M.chart.length cc) f e l zeroM M 36 rfl rfl HS2.out.res HO.out (by kernel_rfl) ?_;intro w4 hb4 hg4)
   | fail)
  clear k0 k1 k2 k3 k4 k5 k6 k7 k8
  have HBG:=Lib.hid (HS2.out.bel.grown hg4 HS2.out.bel.size (fun j hj=>by cases hj;exact Nat.le_succ _))
  obtain ⟨c0,c1,c2,c3,c4,c5,c6,c7,c8⟩:=hb4.nine
  clear hb4 hg4
  exact bodyPost_ret (v:=.tuple #[aggM (.slice pc M.chart.length cc) f e l M,.int .i64 n1]) (by simp [results,Tryz.results47,go_sem,c0,c1,c2,c3,c4,c5,c6,c7,c8]) rfl ⟨_,_,_,_,M,by rw [HNN.out],(fun h=>absurd (HNN.out.symm.trans h) h1),HO.out,Off4.refl _ _ _ _ _,HBG.out⟩
set_option maxRecDepth 100000 in
set_option maxHeartbeats 16000000 in
theorem one_flow (v c f e l:Value) (ws:List ByteArray) (M:Mast) (w:World) (hm:MastIn w c f e l M) (hs:Sane M) (hv:StrsV w v ws) (hx:ws[0]?=some Fl.tFlow) :
 Calls Tryz.prog 47 #[aggM c f e l M,v] w (OneTold w c f e l M ws):=by
 obtain ⟨pf,cf,ef,_⟩:=hm.flows
 subst ef
 have hlen:M.flows.length≤1000:=by have:=hs.lf;omega
 have HS:=Lib.hid (two_start w hm)
 have HPR:=Lib.hid (Fl.rparse_any v ws (two0 w c (.slice pf M.flows.length cf) e l M) (hv.keep HS.out.bel))
 have HM:=Lib.hid hm
 have HO:=Lib.hid (ones_of hm)
 obtain ⟨s1,s2⟩:=step_flow (M:=M) (ws:=ws) (wd_of hx)
 obtain ⟨A,hA⟩:∃ A,(Fl.parseF ws).1=A:=⟨_,rfl⟩
 obtain ⟨n1,hn1⟩:∃ n,(Fl.parseF ws).2=n:=⟨_,rfl⟩
 rw [hA,hn1] at HPR s1
 rw [hA] at s2
 obtain ⟨n,hn⟩:∃ n,Fl.addE M.flows A=n:=⟨_,rfl⟩
 obtain ⟨R,hR⟩:∃ R,G.insR Fl.Flow.code M.flows A=R:=⟨_,rfl⟩
 rw [hn] at s1
 have hri:=Fl.rise_codes hs.fl
 have HIN:Hid (n=0→insK Fl.Flow.code M.flows A=R):=Lib.hid (fun h0=>by
  rw [←hn] at h0
  rw [insF_eqR hri (Fl.addE_zero hri h0).2.1,hR])
 have HCA:=Lib.hid (fun W h=>rfadd_any (.slice pf M.flows.length cf) M.flows A W h hri hlen)
 rw [hn,hR] at HCA
 obtain ⟨N,hN⟩:∃ N,stepE M ws=N:=⟨_,rfl⟩
 have HNE:=Lib.hid s1
 have HV2:=Lib.hid s2
 rw [hN] at HNE
 unfold OneTold
 rw [hN]
 obtain ⟨p,cp,rfl,hcap,hml,hc⟩:=hv
 obtain ⟨g,o,rfl,x0⟩:=hc 0 Fl.tFlow hx
 rw [Nat.add_zero] at x0
 have y0:=cell_later HS.out.bel x0
 obtain ⟨nw,hnw⟩:∃ nw,ws.length=nw:=⟨_,rfl⟩
 have hw0:0 < nw:=by rw [←hnw];exact (List.getElem?_eq_some_iff.1 hx).1
 rw [hnw] at HPR hcap hml ⊢
 have gt:(Fl.tFlow.toList==[102,108,111,119])=true:=by rw [qFlow];decide
 have g0:(Fl.tFlow.toList==[97,99,99,111,117,110,116])=false:=by rw [qAccount];decide
 clear hm hs hc hx hlen hri s1 s2 hA hn1 hn hR hN x0 hnw
 go_enter Tryz.func47,Tryz.ntmps47
 go_wp2_with fail
 refine HPR.out.mono ?_
 rintro en w1 ⟨rfl,hb1⟩
 have HS1:=Lib.hid (HS.out.below hb1)
 have HBA:=Lib.hid ((Below.refl w1.heap.size w1).alloc (Nat.le_refl _) (.cells (Fl.encF.cs Fl.zeroF).toArray 147))
 clear hb1 y0 gt g0
 by_cases h1:n1=0
 ·subst h1
  have HNN:Hid (N=n):=Lib.hid (by rw [HNE.out,if_pos rfl])
  go_wp2_with (refine wpList_store_el (E:=Fl.encF) rfl 147 (.tmp 10) (.tmp 44) rfl w1.heap.size Fl.zeroF A 147 rfl rfl (BoxE.new Fl.encF w1 Fl.zeroF _) (by kernel_rfl) ?_;intro w2 hb2 hg2;have HG2:Hid (Below w1.heap.size w1 w2):=Lib.hid (HBA.out.grown hg2 HBA.out.size (fun j hj=>by cases hj;exact Nat.le_refl _));have HX2:=Lib.hid hb2;clear hb2 hg2;have HS2:=Lib.hid (HS1.out.below HG2.out);have hk:=HS2.out.box.nine.c1;obtain ⟨q0,q1⟩:=Fl.two HX2.out.at0)
  refine (HCA.out w2 HS2.out.mast.flows).mono ?_
  rintro en w3 ⟨v3,rfl,ho3,hn3,hb3⟩
  obtain ⟨p3,m3,cp3,rfl⟩:=told_shape ho3 hn3
  have HO3:=Lib.hid ho3
  have HN3:=Lib.hid hn3
  have HS3:=Lib.hid (HS2.out.below hb3)
  have hB2:=HS2.out.bel.size
  have hk3:=HS3.out.box.nine.c1
  have hf3:=boxM_free HS3.out.box 1
  obtain ⟨W2,hW2⟩:∃ W2,w3.setCell ⟨w.heap.size,1,none⟩ (.slice p3 m3 cp3)=W2:=⟨_,rfl⟩
  have HG4:Hid (w3.grownBy W2 (some w.heap.size)):=Lib.hid (by rw [←hW2];exact set_grown w3 w.heap.size 1 (.slice p3 m3 cp3))
  have HW2:Hid (Below w.heap.size w W2):=Lib.hid (by rw [←hW2];exact set_below HS3.out.bel 1 _)
  obtain ⟨M2,hM2⟩:∃ M2:Mast,{ M with flows:=R }=M2:=⟨_,rfl⟩
  have HB2:Hid (BoxM W2 w.heap.size 36 c (.slice p3 m3 cp3) e l M2):=Lib.hid (by rw [←hW2,←hM2];exact box_set HS3.out.box rfl)
  have HR2:Hid (BoxM W2 (w.heap.size+1) 36 nil4 nil4 nil4 nil4 zeroM):=Lib.hid ((HG4.out.block _ HS3.out.res.lt (by simp)).trans HS3.out.res)
  have HM2:Hid (M2.chart=M.chart∧M2.ents=M.ents∧M2.lines=M.lines∧M2.flows=R):=Lib.hid (by rw [←hM2];exact ⟨rfl,rfl,rfl,rfl⟩)
  have HMM:=Lib.hid hM2
  have HO2:Hid (Ones c (.slice p3 m3 cp3) e l):=Lib.hid ⟨HO.out.c,rfl,HO.out.e,HO.out.l⟩
  clear ho3 hn3 hb3 hM2 hk q0 q1
  obtain ⟨k0,k1,k2,k3,k4,k5,k6,k7,k8⟩:=HB2.out.nine
  go_wp2_with (refine wpList_store_mast rfl 36 (.tmp 4) (.tmp 59) rfl (w.heap.size+1) nil4 nil4 nil4 nil4 c (.slice p3 m3 cp3) e l zeroM M2 36 rfl rfl HR2.out HO2.out (by kernel_rfl) ?_;intro w4 hb4 hg4)
  clear k0 k1 k2 k3 k4 k5 k6 k7 k8 hk3 hf3 hW2
  have HBG:=Lib.hid (HW2.out.grown hg4 HW2.out.size (fun j hj=>by cases hj;exact Nat.le_succ _))
  have HX4:Hid (n=0→ElsV Fl.encF w4 (.slice p3 m3 cp3) M2.flows):=Lib.hid (fun h0=>by
   obtain ⟨t,hr⟩:=HN3.out h0
   have h2:=(hr.kept HG4.out (.inr (fun e0=>by
    rcases hr.2 with ⟨e,_⟩ | ⟨g',_,_,e,hge,_⟩
    ·cases e;simp [Value.ownBlock] at e0
    ·cases e
     have h3:g'=w.heap.size:=by simpa [Value.ownBlock] using e0
     have:=HS2.out.box.lt
     omega))).kept hg4 (.inr (fun e0=>by
    rcases hr.2 with ⟨e,_⟩ | ⟨g',_,_,e,hge,_⟩
    ·cases e;simp [Value.ownBlock] at e0
    ·cases e
     have h3:g'=w.heap.size+1:=by simpa [Value.ownBlock] using e0
     have:=HS2.out.res.lt
     omega))
   rw [HM2.out.2.2.2]
   exact els_of_own h2)
  obtain ⟨c0,c1,c2,c3,c4,c5,c6,c7,c8⟩:=hb4.nine
  clear hb4 hg4
  refine bodyPost_ret (v:=.tuple #[aggM c (.slice p3 m3 cp3) e l M2,.int .i64 n]) (by simp [results,Tryz.results47,go_sem,c0,c1,c2,c3,c4,c5,c6,c7,c8]) rfl ⟨_,_,_,_,M2,by rw [HNN.out],fun h0=>⟨?_,?_⟩,HO2.out,⟨Off1.refl _ _,Off1.told HO3.out HN3.out HS2.out.bel.size,Off1.refl _ _,Off1.refl _ _⟩,HBG.out⟩
  ·rw [HV2.out,HIN.out (by rw [←HNN.out];exact h0)];exact HMM.out.symm
  ·have hk:=HM.out.keep HBG.out
   obtain ⟨m1,m2,m3,_⟩:=HM2.out
   exact ⟨by rw [m1];exact hk.chart,HX4.out (by rw [←HNN.out];exact h0),by rw [m2];exact hk.ents,by rw [m3];exact hk.lines⟩
 ·have HNN:Hid (N=n1):=Lib.hid (by rw [HNE.out,if_neg h1])
  have h1z:(n1 != 0)=true:=by simp [h1]
  go_wp2_with (first
   | (refine wpList_store_el (E:=Fl.encF) rfl 147 (.tmp 10) (.tmp 44) rfl w1.heap.size Fl.zeroF A 147 rfl rfl (BoxE.new Fl.encF w1 Fl.zeroF _) (by kernel_rfl) ?_;intro w2 hb2 hg2;have HG2:Hid (Below w1.heap.size w1 w2):=Lib.hid (HBA.out.grown hg2 HBA.out.size (fun j hj=>by cases hj;exact Nat.le_refl _));have HX2:=Lib.hid hb2;clear hb2 hg2;have HS2:=Lib.hid (HS1.out.below HG2.out);obtain ⟨k0,k1,k2,k3,k4,k5,k6,k7,k8⟩:=HS2.out.box.nine)
   | (refine wpList_store_mast rfl 36 (.tmp 4) (.tmp 48) rfl (w.heap.size+1) nil4 nil4 nil4 nil4 c (.slice pf M.flows.length cf) e l zeroM M 36 rfl rfl HS2.out.res HO.out (by kernel_rfl) ?_;intro w4 hb4 hg4)
   | fail)
  clear k0 k1 k2 k3 k4 k5 k6 k7 k8
  have HBG:=Lib.hid (HS2.out.bel.grown hg4 HS2.out.bel.size (fun j hj=>by cases hj;exact Nat.le_succ _))
  obtain ⟨c0,c1,c2,c3,c4,c5,c6,c7,c8⟩:=hb4.nine
  clear hb4 hg4
  exact bodyPost_ret (v:=.tuple #[aggM c (.slice pf M.flows.length cf) e l M,.int .i64 n1]) (by simp [results,Tryz.results47,go_sem,c0,c1,c2,c3,c4,c5,c6,c7,c8]) rfl ⟨_,_,_,_,M,by rw [HNN.out],(fun h=>absurd (HNN.out.symm.trans h) h1),HO.out,Off4.refl _ _ _ _ _,HBG.out⟩
set_option maxRecDepth 100000 in
set_option maxHeartbeats 16000000 in
theorem one_small (v c f e l:Value) (ws:List ByteArray) (M:Mast) (w:World) (hm:MastIn w c f e l M) (hs:Sane M) (hv:StrsV w v ws) (x0:ByteArray) (hx:ws[0]?=some x0) (hA:x0≠tAccount) (hF:x0≠Fl.tFlow) :
 Calls Tryz.prog 47 #[aggM c f e l M,v] w (OneTold w c f e l M ws):=by
 have HS:=Lib.hid (two_start w hm)
 have h0:0 < ws.length:=(List.getElem?_eq_some_iff.1 hx).1
 have HCA:=Lib.hid (rsmall_any v c f e l ws M (two0 w c f e l M) HS.out.mast hs (hv.keep HS.out.bel) h0 (by rw [wd_of hx];exact hA) (by rw [wd_of hx];exact hF))
 have HQ:=Lib.hid (off_of_mast (P:=fun b=>b≠w.heap.size+1) hm (fun b hb e0=>by omega))
 have hof0:∀ (c' f' e' l':Value),Off4 (two0 w c f e l M) c f e l c' f' e' l'→Off4 w c f e l c' f' e' l':=fun _ _ _ _ h=>by
  have hle:w.heap.size≤(two0 w c f e l M).heap.size:=HS.out.bel.size
  exact ⟨h.1.mono hle,h.2.1.mono hle,h.2.2.1.mono hle,h.2.2.2.mono hle⟩
 have HOM:=Lib.hid hof0
 have g0:=qAccount x0
 have g1:=qFlow x0
 rw [decide_eq_false hA] at g0
 rw [decide_eq_false hF] at g1
 obtain ⟨p,cp,rfl,hcap,hml,hc⟩:=hv
 obtain ⟨g,o,rfl,y0'⟩:=hc 0 x0 hx
 rw [Nat.add_zero] at y0'
 have y0:=cell_later HS.out.bel y0'
 obtain ⟨nw,hnw⟩:∃ nw,ws.length=nw:=⟨_,rfl⟩
 rw [hnw] at HCA hcap hml h0 ⊢
 clear hm hs hc hx hA hF y0' hnw hof0
 obtain ⟨k0,k1,k2,k3,k4,k5,k6,k7,k8⟩:=HS.out.box.nine
 go_enter Tryz.func47,Tryz.ntmps47
 go_wp2_with fail
 clear k0 k1 k2 k3 k4 k5 k6 k7 k8
 refine HCA.out.mono ?_
 rintro en w1 ⟨c',f',e',l',M',rfl,hz,ho,hof,hb1⟩
 have HS1:=Lib.hid (HS.out.below hb1)
 have HZ:=Lib.hid hz
 have HO:=Lib.hid ho
 have HOF:=Lib.hid hof
 obtain ⟨N,hN⟩:∃ N,stepE M ws=N:=⟨_,rfl⟩
 rw [hN]
 have HN:=Lib.hid hN
 clear hz ho hof hb1 hN y0 g0 g1
 go_wp2_with (refine wpList_store_mast rfl 36 (.tmp 4) (.tmp 64) rfl (w.heap.size+1) nil4 nil4 nil4 nil4 c' f' e' l' zeroM M' 36 rfl rfl HS1.out.res HO.out (by kernel_rfl) ?_;intro w4 hb4 hg4)
 have HBG:=Lib.hid (HS1.out.bel.grown hg4 HS1.out.bel.size (fun j hj=>by cases hj;exact Nat.le_succ _))
 have HX4:Hid (N=0→M'=stepV M ws∧MastIn w4 c' f' e' l' M'):=Lib.hid (fun h0=>by
  obtain ⟨h1,h2⟩:=HZ.out (by rw [HN.out];exact h0)
  obtain ⟨o0,o1,o2,o3⟩:=HOF.out
  have hsz:(two0 w c f e l M).heap.size=w.heap.size+2:=by simp [two0]
  have hP:∀ b,(two0 w c f e l M).heap.size≤b→b≠w.heap.size+1:=fun b hb e0=>by omega
  obtain ⟨p0,p1,p2,p3⟩:=HQ.out
  exact ⟨h1,mast_off h2 (o0 _ hP p0) (o1 _ hP p1) (o2 _ hP p2) (o3 _ hP p3) (fun b hb hlt=>hg4.block b hlt (fun e0=>hb (Option.some.inj e0)))⟩)
 obtain ⟨c0,c1,c2,c3,c4,c5,c6,c7,c8⟩:=hb4.nine
 clear hb4 hg4
 exact bodyPost_ret (v:=.tuple #[aggM c' f' e' l' M',.int .i64 N]) (by simp [results,Tryz.results47,go_sem,c0,c1,c2,c3,c4,c5,c6,c7,c8]) rfl ⟨_,_,_,_,M',by rw [HN.out],(fun h=>HX4.out (by rw [←HN.out];exact h)),HO.out,HOM.out _ _ _ _ HOF.out,HBG.out⟩
theorem rone_any (v c f e l:Value) (ws:List ByteArray) (M:Mast) (w:World) (hm:MastIn w c f e l M) (hs:Sane M) (hv:StrsV w v ws) (h0:0 < ws.length) :
 Calls Tryz.prog 47 #[aggM c f e l M,v] w (OneTold w c f e l M ws):=by
 obtain ⟨x0,hx⟩:∃ x,ws[0]?=some x:=⟨_,List.getElem?_eq_getElem h0⟩
 by_cases hA:x0=tAccount
 ·subst hA;exact one_account v c f e l ws M w hm hs hv hx
 ·by_cases hF:x0=Fl.tFlow
  ·subst hF;exact one_flow v c f e l ws M w hm hs hv hx
  ·exact one_small v c f e l ws M w hm hs hv x0 hx hA hF
end Go.Proofs.YtdegffffcbhjbaaGreatDoor.Un
end
section
namespace Go.Proofs.YtdegffffcbhjbaaGreatDoor.Un
open Go.RowKit
theorem wp_store_acct {P:Program} {o:Oper} {act:Act} {w:World} {K:Act→World→Prop} {Q:Exit→Act→World→Prop} (ty:TypeId) (x y:Operand) (ho:o.op=.store ty x y)
 (g:Nat) (z a:Acct) (t:TypeId) (hx:act.eval x=.pointer (some ⟨g,0,none⟩)) (hy:act.eval y=aggF a) (hg:BoxA w g t z) (hi:(P.info? ty).map (·.size)=some 6)
 (h:∀ w',BoxA w' g t a→w.grownBy w' (some g)→K (act.put o.dst undef) w'):o.wp P act w K Q :=
 wp_store_row ty x y ho g _ hx hy t _ hg hi rfl (acct_one a) (h _ (hg.set a) (grownBy_setRow w g _))
def codesD (M:Mast):List (ByteArray × Int):=[(M.res,2),(M.min,2),(M.dif,0),(M.stk,0)]
theorem codesD_cls {M:Mast} {i:Nat} {x:ByteArray} {k:Int} (h:(codesD M)[i]?=some (x,k)):k=if 1 < i then 0 else 2:=by
 match i,h with
 | 0,h=>simp [codesD] at h;simp [h.2.symm]
 | 1,h=>simp [codesD] at h;simp [h.2.symm]
 | 2,h=>simp [codesD] at h;simp [h.2.symm]
 | 3,h=>simp [codesD] at h;simp [h.2.symm]
 | i+4,h=>simp [codesD] at h
def allD (M:Mast):Int :=
 if M.cur=emp then 6
 else if (codesD M).all (fun x=>(findL M.chart x.1).isSome)=false then 6
 else if M.lines.all (fun x=>(findL M.chart x.acc).isSome && (Fl.findF M.flows x.flow).isSome)=false then 6
 else if Fl.wholeTo M.flows 5=false then 8
 else if (codesD M).all (fun x=>specA (findV (findL M.chart x.1)) x.2)=false then 15 else 0
set_option maxRecDepth 100000 in
set_option maxHeartbeats 16000000 in
theorem rall_any (c f e l:Value) (M:Mast) (w:World) (h:MastIn w c f e l M) (hfl:M.flows.length≤1000) :
 Calls Tryz.prog 48 #[aggM c f e l M] w fun en w'=>en=.returned (.int .i64 (allD M))∧Below w.heap.size w w':=by
 have hb0:=(Below.refl w.heap.size w).alloc (Nat.le_refl _) (.cells (cellsM c f e l M) 36)
 have hb1:=hb0.alloc hb0.size (.cells #[.string M.res,.string M.min,.string M.dif,.string M.stk] 9)
 have hbx:=(Below.refl _ (w.alloc (.cells (cellsM c f e l M) 36))).alloc (Nat.le_refl _) (.cells #[.string M.res,.string M.min,.string M.dif,.string M.stk] 9)
 have hn0:=nine_new w c f e l M 36
 have hn1:=hn0.kept hbx
 have hm1:=h.keep hb1
 have hst:=strs_new (w.alloc (.cells (cellsM c f e l M) 36)) ((codesD M).map (·.1)) 9 (by unfold maxLen;simp [codesD])
 rw [World.size_alloc] at hst
 obtain ⟨W1,hW1⟩:∃ W1,(w.alloc (.cells (cellsM c f e l M) 36)).alloc (.cells #[.string M.res,.string M.min,.string M.dif,.string M.stk] 9)=W1:=⟨_,rfl⟩
 have hst1:StrsV W1 (.slice (some ⟨w.heap.size+1,0,none⟩) 4 4) ((codesD M).map (·.1)):=by rw [←hW1];exact hst
 rw [hW1] at hb1 hn1 hm1
 have HB1:=Lib.hid hb1
 have HN1:=Lib.hid hn1
 have HM1:=Lib.hid hm1
 obtain ⟨p,cp,e1,_,_,hst2⟩:=hst1
 cases e1
 have HST:=Lib.hid hst2
 have HCN:Hid ((codesD M).length=4):=Lib.hid rfl
 obtain ⟨pl,cl,el,hcl,hml,_,hlv⟩:=hm1.lines
 subst el
 obtain ⟨n,hn⟩:∃ n,M.lines.length=n:=⟨_,rfl⟩
 rw [hn] at hcl HN1 HM1 hn1 hW1 ⊢
 have HN:=Lib.hid hn
 have HLV:=Lib.hid hlv
 have HFI:=Lib.hid (fun x W hW=>rcfind_any c M.chart x W hW)
 have HKI:=Lib.hid (fun x W hW=>rkind_any f M.flows x W hW)
 have HWH:=Lib.hid (fun W hW=>rwhole_any f M.flows W hW hfl)
 obtain ⟨R,hR⟩:∃ R,allD M=R:=⟨_,rfl⟩
 rw [hR]
 have HR:Hid (allD M=R):=Lib.hid hR
 unfold maxLen at hml
 by_cases hcur:M.cur=emp
 ·have HRF:Hid (R=6):=Lib.hid (by rw [←HR.out];unfold allD;rw [if_pos hcur])
  have hq2:M.cur.toList.isEmpty=true:=by
   have hne:(!M.cur.toList.isEmpty)=false:=by rw [hcur];exact neB_empty
   revert hne;cases M.cur.toList.isEmpty <;> simp
  clear hb0 hb1 hbx hn0 hm1 hst hst2 hn hlv hR h hcur
  obtain ⟨k0,k1,k2,k3,k4,k5,k6,k7,k8⟩:=hn1
  go_enter Tryz.func48,Tryz.ntmps48
  go_wp2
  go_ret
  exact ⟨by rw [HRF.out];rfl,HB1.out⟩
 have HCU:=Lib.hid hcur
 have hq2:M.cur.toList.isEmpty=false:=by
  have hne:(!M.cur.toList.isEmpty)=true:=(neB_iff M.cur).2 hcur
  revert hne;cases M.cur.toList.isEmpty <;> simp
 clear hb0 hb1 hbx hn0 hm1 hst hst2 hn hlv hR h hcur
 obtain ⟨k0,k1,k2,k3,k4,k5,k6,k7,k8⟩:=hn1
 go_enter Tryz.func48,Tryz.ntmps48
 go_wp2
 clear k0 k1 k2 k3 k4 k5 k6 k7 k8 hW1 hq2
 go_loopw [4] (fun si wr=>∃ i:Nat,i≤4∧si=.int .i64 (i:Int)∧Hid (Below W1.heap.size W1 wr)∧Hid (SoFar (fun x:ByteArray × Int=>(findL M.chart x.1).isSome) (codesD M) i)) (fun si _=>4 - (intOf si).toNat)
 case atStart=>exact ⟨0,by omega,rfl,Lib.hid (Below.refl _ _),Lib.hid (SoFar.zero _ _)⟩
 case round =>
  obtain ⟨i,hi,rfl,HB,HSF⟩:=hrel
  by_cases hlt:i < 4
  ·obtain ⟨⟨x,kx⟩,hx⟩:∃ x,(codesD M)[i]?=some x:=⟨_,List.getElem?_eq_getElem (by rw [HCN.out];exact hlt)⟩
   obtain ⟨b,o,e2,hcx⟩:=HST.out i x (by rw [List.getElem?_map,hx];rfl)
   cases e2
   have HX:=Lib.hid hx
   have y0:=cell_later HB.out hcx
   rw [Nat.zero_add] at y0
   have k0:=(HN1.out.keep HB.out HN1.out.lt).c0
   have r0:=fun p:Past wr=>cell_past y0 p
   have r1:=fun p:Past wr=>cell_past k0 p
   obtain ⟨FA,hFA⟩:∃ FA,findV (findL M.chart x)=FA:=⟨_,rfl⟩
   obtain ⟨IS,hIS⟩:∃ IS,(findL M.chart x).isSome=IS:=⟨_,rfl⟩
   have HF:=Lib.hid (HFI.out x)
   rw [hFA,hIS] at HF
   have HIS:=Lib.hid hIS
   have HCH:=Lib.hid (HM1.out.chart.keep HB.out)
   clear hx hcx hFA hIS y0 k0
   go_wp2_with fail
   refine wp_region_plan (.two [0,1,2,3,4,5] 6 (.one [7,8,9] 10 (.one [] 11 (.last [12]))) 10 (.one [] 6 (.one [7,8,9] 11 (.last [12])))) (by kernel_rfl) (by kernel_rfl) (fun d _ _ _ _ h=>by cases d <;> exact h) ?_
   obtain ⟨wq,hwq⟩:∃ wq,wr.drew=wq:=⟨_,rfl⟩
   rw [hwq]
   have HD:Hid (Below wr.heap.size wr wq):=Lib.hid (by rw [←hwq];exact ⟨rfl,rfl,rfl,Nat.le_refl _,fun _ _=>rfl⟩)
   clear hwq
   simp only [wpPlan,pick,nth]
   repeat (go_big_quiet_step (fail))
   refine wpQuiet_nil ?_
   clear r0 r1
   refine ⟨?_,?_⟩
   ·intro K hK
    refine alone_want (by kernel_rfl) ?_
    go_big_op
    refine (HF.out wq (HCH.out.keep HD.out)).mono ?_
    rintro en w2 ⟨rfl,hb2⟩
    have HP2:=Lib.hid (HD.out.trans (hb2.mono HD.out.size))
    clear hb2
    refine hK _ _ (past_in HP2.out) ?_
    clear hK K
    repeat (go_big_quiet_step (fail))
    refine wpQuiet_nil ?_
    intro K hK
    refine alone_want (by kernel_rfl) ?_
    go_big_op
    have HP3:=Lib.hid (HP2.out.alloc HP2.out.size (.cells (encA.cs zeroA).toArray 107))
    refine hK _ _ (past_in HP3.out) ?_
    clear hK K
    refine wpQuiet_nil ?_
    intro K hK
    refine alone_want (by kernel_rfl) ?_
    refine wp_store_acct 107 (.tmp 5) (.tmp 40) rfl w2.heap.size zeroA FA 107 rfl rfl (BoxA.new w2 zeroA _) (by kernel_rfl) ?_
    intro w3 hb3 hg3
    have HP4:=Lib.hid (HP3.out.grown hg3 HP3.out.size (fun j hj=>by cases hj;exact HP2.out.size))
    have HX3:=Lib.hid hb3
    clear hb3 hg3
    refine hK _ _ (past_in HP4.out) ?_
    clear hK K
    simp only [Act.put]
    repeat (go_big_quiet_step (fail))
    refine wpQuiet_nil ?_
    have HBN:=Lib.hid (HB.out.trans (HP4.out.mono HB.out.size))
    cases IS with
    | false =>
      have HRF:Hid (R=6):=Lib.hid (by
       rw [←HR.out];unfold allD
       rw [if_neg HCU.out,if_pos (all_no HX.out HIS.out)])
      go_wp2
      go_ret
      exact ⟨by rw [HRF.out];rfl,HB1.out.trans (HBN.out.mono HB1.out.size)⟩
    | true =>
      have HSN:=Lib.hid (HSF.out.next HX.out HIS.out)
      go_wp2
      go_roundw
      case rel=>exact ⟨i+1,by omega,by go_num,HBN,HSN⟩
      case measure=>simp [intOf];omega
   ·intro K hK
    refine alone_want (by kernel_rfl) ?_
    go_big_op
    have HP2:=Lib.hid (HD.out.alloc HD.out.size (.cells (encA.cs zeroA).toArray 107))
    have hb2:BoxA (wq.alloc (.cells (encA.cs zeroA).toArray 107)) wq.heap.size 107 zeroA:=BoxA.new wq zeroA _
    refine hK _ _ (past_in HP2.out) ?_
    clear hK K
    refine wpQuiet_nil ?_
    intro K hK
    refine alone_want (by kernel_rfl) ?_
    go_big_op
    refine (HF.out _ (HCH.out.keep HP2.out)).mono ?_
    rintro en w2 ⟨rfl,hb3⟩
    have HP3:=Lib.hid (HP2.out.trans (hb3.mono HP2.out.size))
    have HX2:=Lib.hid (hb2.keep hb3 (Array.getElem?_eq_some_iff.1 hb2).1)
    clear hb2 hb3
    refine hK _ _ (past_in HP3.out) ?_
    clear hK K
    repeat (go_big_quiet_step (fail))
    refine wpQuiet_nil ?_
    intro K hK
    refine alone_want (by kernel_rfl) ?_
    refine wp_store_acct 107 (.tmp 5) (.tmp 40) rfl wq.heap.size zeroA FA 107 rfl rfl HX2.out (by kernel_rfl) ?_
    intro w3 hb3 hg3
    have HP4:=Lib.hid (HP3.out.grown hg3 HP3.out.size (fun j hj=>by cases hj;exact HD.out.size))
    have HX3:=Lib.hid hb3
    clear hb3 hg3
    refine hK _ _ (past_in HP4.out) ?_
    clear hK K
    simp only [Act.put]
    repeat (go_big_quiet_step (fail))
    refine wpQuiet_nil ?_
    have HBN:=Lib.hid (HB.out.trans (HP4.out.mono HB.out.size))
    cases IS with
    | false =>
      have HRF:Hid (R=6):=Lib.hid (by
       rw [←HR.out];unfold allD
       rw [if_neg HCU.out,if_pos (all_no HX.out HIS.out)])
      go_wp2
      go_ret
      exact ⟨by rw [HRF.out];rfl,HB1.out.trans (HBN.out.mono HB1.out.size)⟩
    | true =>
      have HSN:=Lib.hid (HSF.out.next HX.out HIS.out)
      go_wp2
      go_roundw
      case rel=>exact ⟨i+1,by omega,by go_num,HBN,HSN⟩
      case measure=>simp [intOf];omega
  ·have HA1:Hid ((codesD M).all (fun x=>(findL M.chart x.1).isSome)=true):=Lib.hid (HSF.out.done (by rw [HCN.out];omega))
   rename World=>wa
   go_wp2
   go_loopw [7] (fun si wr=>∃ i:Nat,i≤n∧si=.int .i64 (i:Int)∧Hid (Below W1.heap.size W1 wr)∧Hid (SoFar (fun x:Lin=>(findL M.chart x.acc).isSome && (Fl.findF M.flows x.flow).isSome) M.lines i)) (fun si _=>n - (intOf si).toNat)
   case atStart=>exact ⟨0,by omega,rfl,HB,Lib.hid (SoFar.zero _ _)⟩
   case round =>
    clear HB HSF
    obtain ⟨i,hi,rfl,HB,HSF⟩:=hrel
    by_cases hlt:i < n
    ·obtain ⟨x,hx⟩:∃ x,M.lines[i]?=some x:=⟨_,List.getElem?_eq_getElem (by rw [HN.out];exact hlt)⟩
     obtain ⟨b,o,rfl,hat⟩:=HLV.out i x hx
     have HX:=Lib.hid hx
     have HAT:=Lib.hid hat
     obtain ⟨d0,d1,d2⟩:=lin3 (hat.keep HB.out hat.lt)
     obtain ⟨k0,k1,k2,k3,k4,k5,k6,k7,k8⟩:=HN1.out.keep HB.out HN1.out.lt
     have r0:=fun p:Past wr=>cell_past d0 p
     have r1:=fun p:Past wr=>cell_past k0 p
     have r2:=fun p:Past wr=>cell_past k3 p
     obtain ⟨FA,hFA⟩:∃ FA,findV (findL M.chart x.acc)=FA:=⟨_,rfl⟩
     obtain ⟨IS,hIS⟩:∃ IS,(findL M.chart x.acc).isSome=IS:=⟨_,rfl⟩
     obtain ⟨KK,hKK⟩:∃ KK,kindO' (Fl.findF M.flows x.flow)=KK:=⟨_,rfl⟩
     obtain ⟨HS,hHS⟩:∃ HS,(Fl.findF M.flows x.flow).isSome=HS:=⟨_,rfl⟩
     have HF:=Lib.hid (HFI.out x.acc)
     have HK:=Lib.hid (HKI.out x.flow)
     rw [hFA,hIS] at HF
     rw [hKK,hHS] at HK
     have HIS:=Lib.hid hIS
     have HHS:=Lib.hid hHS
     have HCH:=Lib.hid (HM1.out.chart.keep HB.out)
     clear hx hat hFA hIS hKK hHS d0 d1 d2 k0 k1 k2 k4 k5 k6 k7 k8
     go_wp2_with fail
     refine wp_region_plan (.two [0,1,2,3,4,5,6,7] 8 (.one [9,10,11] 12 (.one [] 13 (.last [14]))) 12 (.one [] 8 (.one [9,10,11] 13 (.last [14])))) (by kernel_rfl) (by kernel_rfl) (fun d _ _ _ _ h=>by cases d <;> exact h) ?_
     obtain ⟨wq,hwq⟩:∃ wq,wr.drew=wq:=⟨_,rfl⟩
     rw [hwq]
     have HD:Hid (Below wr.heap.size wr wq):=Lib.hid (by rw [←hwq];exact ⟨rfl,rfl,rfl,Nat.le_refl _,fun _ _=>rfl⟩)
     clear hwq
     simp only [wpPlan,pick,nth]
     repeat (go_big_quiet_step (fail))
     refine wpQuiet_nil ?_
     clear r0 r1 r2 k3
     refine ⟨?_,?_⟩
     ·intro K hK
      refine alone_want (by kernel_rfl) ?_
      go_big_op
      refine (HF.out wq (HCH.out.keep HD.out)).mono ?_
      rintro en w2 ⟨rfl,hb2⟩
      have HP2:=Lib.hid (HD.out.trans (hb2.mono HD.out.size))
      clear hb2
      refine hK _ _ (past_in HP2.out) ?_
      clear hK K
      repeat (go_big_quiet_step (fail))
      refine wpQuiet_nil ?_
      intro K hK
      refine alone_want (by kernel_rfl) ?_
      go_big_op
      have HP3:=Lib.hid (HP2.out.alloc HP2.out.size (.cells (encA.cs zeroA).toArray 107))
      refine hK _ _ (past_in HP3.out) ?_
      clear hK K
      refine wpQuiet_nil ?_
      intro K hK
      refine alone_want (by kernel_rfl) ?_
      refine wp_store_acct 107 (.tmp 8) (.tmp 61) rfl w2.heap.size zeroA FA 107 rfl rfl (BoxA.new w2 zeroA _) (by kernel_rfl) ?_
      intro w3 hb3 hg3
      have HP4:=Lib.hid (HP3.out.grown hg3 HP3.out.size (fun j hj=>by cases hj;exact HP2.out.size))
      have HX3:=Lib.hid hb3
      clear hb3 hg3
      refine hK _ _ (past_in HP4.out) ?_
      clear hK K
      simp only [Act.put]
      repeat (go_big_quiet_step (fail))
      refine wpQuiet_nil ?_
      have HBN:=Lib.hid (HB.out.trans (HP4.out.mono HB.out.size))
      obtain ⟨d0,d1,d2⟩:=lin3 (HAT.out.keep HBN.out HAT.out.lt)
      obtain ⟨k0,k1,k2,k3,k4,k5,k6,k7,k8⟩:=HN1.out.keep HBN.out HN1.out.lt
      have s0:=fun p:Past w3=>cell_past d1 p
      have s1:=fun p:Past w3=>cell_past k1 p
      have s2:=fun p:Past w3=>cell_past k3 p
      have HFV:=Lib.hid (HM1.out.flows.keep HBN.out)
      have HD5:Hid (Below w3.heap.size w3 w3.drew):=Lib.hid ⟨rfl,rfl,rfl,Nat.le_refl _,fun _ _=>rfl⟩
      clear d0 d1 d2 k0 k1 k2 k3 k4 k5 k6 k7 k8
      go_wp2_with fail
      refine wp_region_plan (.one [0,1,2,3,4,5,6,7] 8 (.last [9,10,11,12,13])) (by kernel_rfl) (by kernel_rfl) (fun d _ _ _ _ h=>by cases d <;> exact h) ?_
      simp only [wpPlan,pick,nth]
      repeat (go_big_quiet_step (fail))
      refine wpQuiet_nil ?_
      intro K hK
      refine alone_want (by kernel_rfl) ?_
      go_big_op
      refine (HK.out _ (HFV.out.keep HD5.out)).mono ?_
      rintro en w5 ⟨rfl,hb5⟩
      have HP5:=Lib.hid (HD5.out.trans (hb5.mono HD5.out.size))
      have HBM:=Lib.hid (HBN.out.trans (HP5.out.mono HBN.out.size))
      refine hK _ _ (past_in HP5.out) ?_
      clear hK K hb5 s0 s1 s2
      repeat (go_big_quiet_step (fail))
      refine wpQuiet_nil ?_
      have HRX:Hid ((IS && HS)=false→R=6):=Lib.hid (fun hf=>by
       rw [←HR.out];unfold allD
       rw [if_neg HCU.out,if_neg (by rw [HA1.out];simp),if_pos (all_no HX.out (by rw [HIS.out,HHS.out];exact hf))])
      cases IS with
      | false =>
        have HRF:=Lib.hid (HRX.out rfl)
        go_wp2
        go_ret
        exact ⟨by rw [HRF.out];rfl,HB1.out.trans (HBM.out.mono HB1.out.size)⟩
      | true =>
        cases HS with
        | false =>
          have HRF:=Lib.hid (HRX.out rfl)
          go_wp2
          go_ret
          exact ⟨by rw [HRF.out];rfl,HB1.out.trans (HBM.out.mono HB1.out.size)⟩
        | true =>
          have HSN:=Lib.hid (HSF.out.next HX.out (by rw [HIS.out,HHS.out];rfl))
          go_wp2
          go_roundw
          case rel=>exact ⟨i+1,by omega,by go_num,HBM,HSN⟩
          case measure=>simp [intOf];omega
     ·intro K hK
      refine alone_want (by kernel_rfl) ?_
      go_big_op
      have HP2:=Lib.hid (HD.out.alloc HD.out.size (.cells (encA.cs zeroA).toArray 107))
      have hb2:BoxA (wq.alloc (.cells (encA.cs zeroA).toArray 107)) wq.heap.size 107 zeroA:=BoxA.new wq zeroA _
      refine hK _ _ (past_in HP2.out) ?_
      clear hK K
      refine wpQuiet_nil ?_
      intro K hK
      refine alone_want (by kernel_rfl) ?_
      go_big_op
      refine (HF.out _ (HCH.out.keep HP2.out)).mono ?_
      rintro en w2 ⟨rfl,hb3⟩
      have HP3:=Lib.hid (HP2.out.trans (hb3.mono HP2.out.size))
      have HX2:=Lib.hid (hb2.keep hb3 (Array.getElem?_eq_some_iff.1 hb2).1)
      clear hb2 hb3
      refine hK _ _ (past_in HP3.out) ?_
      clear hK K
      repeat (go_big_quiet_step (fail))
      refine wpQuiet_nil ?_
      intro K hK
      refine alone_want (by kernel_rfl) ?_
      refine wp_store_acct 107 (.tmp 8) (.tmp 61) rfl wq.heap.size zeroA FA 107 rfl rfl HX2.out (by kernel_rfl) ?_
      intro w3 hb3 hg3
      have HP4:=Lib.hid (HP3.out.grown hg3 HP3.out.size (fun j hj=>by cases hj;exact HD.out.size))
      have HX3:=Lib.hid hb3
      clear hb3 hg3
      refine hK _ _ (past_in HP4.out) ?_
      clear hK K
      simp only [Act.put]
      repeat (go_big_quiet_step (fail))
      refine wpQuiet_nil ?_
      have HBN:=Lib.hid (HB.out.trans (HP4.out.mono HB.out.size))
      obtain ⟨d0,d1,d2⟩:=lin3 (HAT.out.keep HBN.out HAT.out.lt)
      obtain ⟨k0,k1,k2,k3,k4,k5,k6,k7,k8⟩:=HN1.out.keep HBN.out HN1.out.lt
      have s0:=fun p:Past w3=>cell_past d1 p
      have s1:=fun p:Past w3=>cell_past k1 p
      have s2:=fun p:Past w3=>cell_past k3 p
      have HFV:=Lib.hid (HM1.out.flows.keep HBN.out)
      have HD5:Hid (Below w3.heap.size w3 w3.drew):=Lib.hid ⟨rfl,rfl,rfl,Nat.le_refl _,fun _ _=>rfl⟩
      clear d0 d1 d2 k0 k1 k2 k3 k4 k5 k6 k7 k8
      go_wp2_with fail
      refine wp_region_plan (.one [0,1,2,3,4,5,6,7] 8 (.last [9,10,11,12,13])) (by kernel_rfl) (by kernel_rfl) (fun d _ _ _ _ h=>by cases d <;> exact h) ?_
      simp only [wpPlan,pick,nth]
      repeat (go_big_quiet_step (fail))
      refine wpQuiet_nil ?_
      intro K hK
      refine alone_want (by kernel_rfl) ?_
      go_big_op
      refine (HK.out _ (HFV.out.keep HD5.out)).mono ?_
      rintro en w5 ⟨rfl,hb5⟩
      have HP5:=Lib.hid (HD5.out.trans (hb5.mono HD5.out.size))
      have HBM:=Lib.hid (HBN.out.trans (HP5.out.mono HBN.out.size))
      refine hK _ _ (past_in HP5.out) ?_
      clear hK K hb5 s0 s1 s2
      repeat (go_big_quiet_step (fail))
      refine wpQuiet_nil ?_
      have HRX:Hid ((IS && HS)=false→R=6):=Lib.hid (fun hf=>by
       rw [←HR.out];unfold allD
       rw [if_neg HCU.out,if_neg (by rw [HA1.out];simp),if_pos (all_no HX.out (by rw [HIS.out,HHS.out];exact hf))])
      cases IS with
      | false =>
        have HRF:=Lib.hid (HRX.out rfl)
        go_wp2
        go_ret
        exact ⟨by rw [HRF.out];rfl,HB1.out.trans (HBM.out.mono HB1.out.size)⟩
      | true =>
        cases HS with
        | false =>
          have HRF:=Lib.hid (HRX.out rfl)
          go_wp2
          go_ret
          exact ⟨by rw [HRF.out];rfl,HB1.out.trans (HBM.out.mono HB1.out.size)⟩
        | true =>
          have HSN:=Lib.hid (HSF.out.next HX.out (by rw [HIS.out,HHS.out];rfl))
          go_wp2
          go_roundw
          case rel=>exact ⟨i+1,by omega,by go_num,HBM,HSN⟩
          case measure=>simp [intOf];omega
    ·have HA2:Hid (M.lines.all (fun x=>(findL M.chart x.acc).isSome && (Fl.findF M.flows x.flow).isSome)=true):=Lib.hid (HSF.out.done (by rw [HN.out];omega))
     obtain ⟨k0,k1,k2,k3,k4,k5,k6,k7,k8⟩:=HN1.out.keep HB.out HN1.out.lt
     have HFV:=Lib.hid (HM1.out.flows.keep HB.out)
     obtain ⟨WH,hWH⟩:∃ WH,Fl.wholeTo M.flows 5=WH:=⟨_,rfl⟩
     have HW:=Lib.hid (HWH.out)
     rw [hWH] at HW
     have HHW:=Lib.hid hWH
     clear hWH
     go_wp2_with fail
     refine (HW.out _ HFV.out).mono ?_
     rintro en w5 ⟨rfl,hb5⟩
     have HB5:=Lib.hid (HB.out.trans (hb5.mono HB.out.size))
     clear hb5 k0 k1 k2 k3 k4 k5 k6 k7 k8
     cases WH with
     | false =>
       have HRF:Hid (R=8):=Lib.hid (by
        rw [←HR.out];unfold allD
        rw [if_neg HCU.out,if_neg (by rw [HA1.out];simp),if_neg (by rw [HA2.out];simp),if_pos HHW.out])
       go_wp2
       go_ret
       exact ⟨by rw [HRF.out];rfl,HB1.out.trans (HB5.out.mono HB1.out.size)⟩
     | true =>
       go_wp2
       go_loopw [12] (fun si wr=>∃ i:Nat,i≤4∧si=.int .i64 (i:Int)∧Hid (Below W1.heap.size W1 wr)∧Hid (SoFar (fun x:ByteArray × Int=>specA (findV (findL M.chart x.1)) x.2) (codesD M) i)) (fun si _=>4 - (intOf si).toNat)
       case atStart=>exact ⟨0,by omega,rfl,HB5,Lib.hid (SoFar.zero _ _)⟩
       case round =>
        clear HB HSF
        obtain ⟨i,hi,rfl,HB,HSF⟩:=hrel
        by_cases hlt:i < 4
        ·obtain ⟨⟨x,kx⟩,hx⟩:∃ x,(codesD M)[i]?=some x:=⟨_,List.getElem?_eq_getElem (by rw [HCN.out];exact hlt)⟩
         obtain ⟨b,o,e2,hcx⟩:=HST.out i x (by rw [List.getElem?_map,hx];rfl)
         cases e2
         have HX:=Lib.hid hx
         have hkx:=codesD_cls hx
         have y0:=cell_later HB.out hcx
         rw [Nat.zero_add] at y0
         have k0:=(HN1.out.keep HB.out HN1.out.lt).c0
         have r0:=fun p:Past wr=>cell_past y0 p
         have r1:=fun p:Past wr=>cell_past k0 p
         obtain ⟨FA,hFA⟩:∃ FA,findV (findL M.chart x)=FA:=⟨_,rfl⟩
         obtain ⟨IS,hIS⟩:∃ IS,(findL M.chart x).isSome=IS:=⟨_,rfl⟩
         have HF:=Lib.hid (HFI.out x)
         rw [hFA,hIS] at HF
         have HFA:=Lib.hid hFA
         have HCH:=Lib.hid (HM1.out.chart.keep HB.out)
         clear hx hcx hFA hIS y0 k0
         go_wp2_with fail
         refine wp_region_plan (.two [0,1,2,3,4,5] 6 (.one [7,8,9] 10 (.one [] 11 (.last [12]))) 10 (.one [] 6 (.one [7,8,9] 11 (.last [12])))) (by kernel_rfl) (by kernel_rfl) (fun d _ _ _ _ h=>by cases d <;> exact h) ?_
         obtain ⟨wq,hwq⟩:∃ wq,wr.drew=wq:=⟨_,rfl⟩
         rw [hwq]
         have HD:Hid (Below wr.heap.size wr wq):=Lib.hid (by rw [←hwq];exact ⟨rfl,rfl,rfl,Nat.le_refl _,fun _ _=>rfl⟩)
         clear hwq
         simp only [wpPlan,pick,nth]
         repeat (go_big_quiet_step (fail))
         refine wpQuiet_nil ?_
         clear r0 r1
         refine ⟨?_,?_⟩
         ·intro K hK
          refine alone_want (by kernel_rfl) ?_
          go_big_op
          refine (HF.out wq (HCH.out.keep HD.out)).mono ?_
          rintro en w2 ⟨rfl,hb2⟩
          have HP2:=Lib.hid (HD.out.trans (hb2.mono HD.out.size))
          clear hb2
          refine hK _ _ (past_in HP2.out) ?_
          clear hK K
          repeat (go_big_quiet_step (fail))
          refine wpQuiet_nil ?_
          intro K hK
          refine alone_want (by kernel_rfl) ?_
          go_big_op
          have HP3:=Lib.hid (HP2.out.alloc HP2.out.size (.cells (encA.cs zeroA).toArray 107))
          refine hK _ _ (past_in HP3.out) ?_
          clear hK K
          refine wpQuiet_nil ?_
          intro K hK
          refine alone_want (by kernel_rfl) ?_
          refine wp_store_acct 107 (.tmp 13) (.tmp 97) rfl w2.heap.size zeroA FA 107 rfl rfl (BoxA.new w2 zeroA _) (by kernel_rfl) ?_
          intro w3 hb3 hg3
          have HP4:=Lib.hid (HP3.out.grown hg3 HP3.out.size (fun j hj=>by cases hj;exact HP2.out.size))
          have HX3:=Lib.hid hb3
          clear hb3 hg3
          refine hK _ _ (past_in HP4.out) ?_
          clear hK K
          simp only [Act.put]
          repeat (go_big_quiet_step (fail))
          refine wpQuiet_nil ?_
          have HBN:=Lib.hid (HB.out.trans (HP4.out.mono HB.out.size))
          obtain ⟨q0,q1,q2,q3,q4,q5⟩:=HX3.out.facts
          obtain ⟨SP,hSP⟩:∃ SP,specA FA kx=SP:=⟨_,rfl⟩
          have HSP:=Lib.hid hSP
          have HSC:=Lib.hid (fun W=>special_any FA kx W)
          rw [hSP] at HSC
          clear hSP
          by_cases hi1:1 < i
          ·rw [if_pos hi1] at hkx
           subst hkx
           have hi1z:(1:Int) < (i:Int):=by omega
           go_wp2_with fail
           refine (HSC.out _).mono ?_
           rintro en w5 ⟨rfl,hb5⟩
           have HBM:=Lib.hid (HBN.out.trans (hb5.mono HBN.out.size))
           clear hb5 q0 q1 q2 q3 q4 q5
           cases SP with
           | false =>
             have HRF:Hid (R=15):=Lib.hid (by
              rw [←HR.out];unfold allD
              rw [if_neg HCU.out,if_neg (by rw [HA1.out];simp),if_neg (by rw [HA2.out];simp),if_neg (by rw [HHW.out];simp),if_pos (all_no HX.out (by rw [HFA.out];exact HSP.out))])
             go_wp2
             go_ret
             exact ⟨by rw [HRF.out];rfl,HB1.out.trans (HBM.out.mono HB1.out.size)⟩
           | true =>
             have HSN:=Lib.hid (HSF.out.next HX.out (by rw [HFA.out];exact HSP.out))
             go_wp2
             go_roundw
             case rel=>exact ⟨i+1,by omega,by go_num,HBM,HSN⟩
             case measure=>simp [intOf];omega
          ·rw [if_neg hi1] at hkx
           subst hkx
           have hi1z:¬ (1:Int) < (i:Int):=by omega
           go_wp2_with fail
           refine (HSC.out _).mono ?_
           rintro en w5 ⟨rfl,hb5⟩
           have HBM:=Lib.hid (HBN.out.trans (hb5.mono HBN.out.size))
           clear hb5 q0 q1 q2 q3 q4 q5
           cases SP with
           | false =>
             have HRF:Hid (R=15):=Lib.hid (by
              rw [←HR.out];unfold allD
              rw [if_neg HCU.out,if_neg (by rw [HA1.out];simp),if_neg (by rw [HA2.out];simp),if_neg (by rw [HHW.out];simp),if_pos (all_no HX.out (by rw [HFA.out];exact HSP.out))])
             go_wp2
             go_ret
             exact ⟨by rw [HRF.out];rfl,HB1.out.trans (HBM.out.mono HB1.out.size)⟩
           | true =>
             have HSN:=Lib.hid (HSF.out.next HX.out (by rw [HFA.out];exact HSP.out))
             go_wp2
             go_roundw
             case rel=>exact ⟨i+1,by omega,by go_num,HBM,HSN⟩
             case measure=>simp [intOf];omega
         ·intro K hK
          refine alone_want (by kernel_rfl) ?_
          go_big_op
          have HP2:=Lib.hid (HD.out.alloc HD.out.size (.cells (encA.cs zeroA).toArray 107))
          have hb2:BoxA (wq.alloc (.cells (encA.cs zeroA).toArray 107)) wq.heap.size 107 zeroA:=BoxA.new wq zeroA _
          refine hK _ _ (past_in HP2.out) ?_
          clear hK K
          refine wpQuiet_nil ?_
          intro K hK
          refine alone_want (by kernel_rfl) ?_
          go_big_op
          refine (HF.out _ (HCH.out.keep HP2.out)).mono ?_
          rintro en w2 ⟨rfl,hb3⟩
          have HP3:=Lib.hid (HP2.out.trans (hb3.mono HP2.out.size))
          have HX2:=Lib.hid (hb2.keep hb3 (Array.getElem?_eq_some_iff.1 hb2).1)
          clear hb2 hb3
          refine hK _ _ (past_in HP3.out) ?_
          clear hK K
          repeat (go_big_quiet_step (fail))
          refine wpQuiet_nil ?_
          intro K hK
          refine alone_want (by kernel_rfl) ?_
          refine wp_store_acct 107 (.tmp 13) (.tmp 97) rfl wq.heap.size zeroA FA 107 rfl rfl HX2.out (by kernel_rfl) ?_
          intro w3 hb3 hg3
          have HP4:=Lib.hid (HP3.out.grown hg3 HP3.out.size (fun j hj=>by cases hj;exact HD.out.size))
          have HX3:=Lib.hid hb3
          clear hb3 hg3
          refine hK _ _ (past_in HP4.out) ?_
          clear hK K
          simp only [Act.put]
          repeat (go_big_quiet_step (fail))
          refine wpQuiet_nil ?_
          have HBN:=Lib.hid (HB.out.trans (HP4.out.mono HB.out.size))
          obtain ⟨q0,q1,q2,q3,q4,q5⟩:=HX3.out.facts
          obtain ⟨SP,hSP⟩:∃ SP,specA FA kx=SP:=⟨_,rfl⟩
          have HSP:=Lib.hid hSP
          have HSC:=Lib.hid (fun W=>special_any FA kx W)
          rw [hSP] at HSC
          clear hSP
          by_cases hi1:1 < i
          ·rw [if_pos hi1] at hkx
           subst hkx
           have hi1z:(1:Int) < (i:Int):=by omega
           go_wp2_with fail
           refine (HSC.out _).mono ?_
           rintro en w5 ⟨rfl,hb5⟩
           have HBM:=Lib.hid (HBN.out.trans (hb5.mono HBN.out.size))
           clear hb5 q0 q1 q2 q3 q4 q5
           cases SP with
           | false =>
             have HRF:Hid (R=15):=Lib.hid (by
              rw [←HR.out];unfold allD
              rw [if_neg HCU.out,if_neg (by rw [HA1.out];simp),if_neg (by rw [HA2.out];simp),if_neg (by rw [HHW.out];simp),if_pos (all_no HX.out (by rw [HFA.out];exact HSP.out))])
             go_wp2
             go_ret
             exact ⟨by rw [HRF.out];rfl,HB1.out.trans (HBM.out.mono HB1.out.size)⟩
           | true =>
             have HSN:=Lib.hid (HSF.out.next HX.out (by rw [HFA.out];exact HSP.out))
             go_wp2
             go_roundw
             case rel=>exact ⟨i+1,by omega,by go_num,HBM,HSN⟩
             case measure=>simp [intOf];omega
          ·rw [if_neg hi1] at hkx
           subst hkx
           have hi1z:¬ (1:Int) < (i:Int):=by omega
           go_wp2_with fail
           refine (HSC.out _).mono ?_
           rintro en w5 ⟨rfl,hb5⟩
           have HBM:=Lib.hid (HBN.out.trans (hb5.mono HBN.out.size))
           clear hb5 q0 q1 q2 q3 q4 q5
           cases SP with
           | false =>
             have HRF:Hid (R=15):=Lib.hid (by
              rw [←HR.out];unfold allD
              rw [if_neg HCU.out,if_neg (by rw [HA1.out];simp),if_neg (by rw [HA2.out];simp),if_neg (by rw [HHW.out];simp),if_pos (all_no HX.out (by rw [HFA.out];exact HSP.out))])
             go_wp2
             go_ret
             exact ⟨by rw [HRF.out];rfl,HB1.out.trans (HBM.out.mono HB1.out.size)⟩
           | true =>
             have HSN:=Lib.hid (HSF.out.next HX.out (by rw [HFA.out];exact HSP.out))
             go_wp2
             go_roundw
             case rel=>exact ⟨i+1,by omega,by go_num,HBM,HSN⟩
             case measure=>simp [intOf];omega
        ·have HA3:Hid ((codesD M).all (fun x=>specA (findV (findL M.chart x.1)) x.2)=true):=Lib.hid (HSF.out.done (by rw [HCN.out];omega))
         have HRF:Hid (R=0):=Lib.hid (by
          rw [←HR.out];unfold allD
          rw [if_neg HCU.out,if_neg (by rw [HA1.out];simp),if_neg (by rw [HA2.out];simp),if_neg (by rw [HHW.out];simp),if_neg (by rw [HA3.out];simp)])
         go_wp2
         go_ret
         exact ⟨by rw [HRF.out];rfl,HB1.out.trans (HB.out.mono HB1.out.size)⟩
end Go.Proofs.YtdegffffcbhjbaaGreatDoor.Un
end
section
namespace Go.Proofs.YtdegffffcbhjbaaGreatDoor
open Go.RowKit
theorem info_string:(Tryz.prog.info? 9).map (fun i=>(i.zero,i.size,i.bytes))=some (some (.string ⟨#[]⟩),1,16):=by kernel_rfl
theorem fieldsGo_snoc (cur:List UInt8) (c:UInt8) (r:List UInt8) (h:gapB c=false):fieldsGo cur (c::r)=fieldsGo (cur++[c]) r:=by simp [fieldsGo,h]
theorem fieldsGo_end (cur:List UInt8) (c:UInt8) (r:List UInt8) (h:gapB c=true) (hc:cur≠[]):fieldsGo cur (c::r)=cur::fieldsGo [] r:=by simp [fieldsGo,h,hc]
theorem fieldsGo_skip (c:UInt8) (r:List UInt8) (h:gapB c=true):fieldsGo [] (c::r)=fieldsGo [] r:=by simp [fieldsGo,h]
theorem drop_at (s:ByteArray) (k:Nat) (h:k < s.size):s.data.toList.drop k=s[k]::s.data.toList.drop (k+1):=by
 have:s[k]=s.data.toList[k]'(by rw [size_list];exact h):=by simp [ByteArray.getElem_eq_getElem_data]
 rw [this];exact List.drop_eq_getElem_cons _
theorem gapB_dec (c:UInt8):gapB c=decide (c.toNat=9∨c.toNat=32):=by
 rw [←gapR_byte];unfold gapR;rw [Bool.eq_iff_iff];simp
theorem bytes_add (t u:ByteArray):(t++u).data.toList=t.data.toList++u.data.toList:=by simp [ByteArray.data_append]
def RWordsPost (w:World) (ws:List (List UInt8)) (e:Ending) (w':World):Prop :=
 ∃ v,e=.returned v∧w'.ownsRow w.heap.size 9 1 v (ws.map mkB).length ((ws.map mkB).map Value.string)∧Below w.heap.size w w'
def RWordsAt (w:World) (l:List UInt8) (s3 s4 s5:Value) (wr:World):Prop :=
 ∃ (k:Nat) (t:ByteArray) (out:List (List UInt8)),k≤l.length∧s5=.int .i64 (k:Int)∧s4=.string t∧t.size≤k∧out.length≤k∧wr.ownsRow w.heap.size 9 1 s3 (out.map mkB).length ((out.map mkB).map Value.string) ∧
   wordsL l=out++fieldsGo t.data.toList (said (l.drop k))∧Below w.heap.size w wr
set_option maxRecDepth 100000 in
set_option maxHeartbeats 2000000 in
theorem lrwords_any (s:ByteArray) (w:World) (hs:s.size≤30000) :
 Calls Tryz.prog 42 #[.string s] w (RWordsPost w (wordsL s.data.toList)):=by
 obtain ⟨i0,hi,hz0,hz1,hz2⟩:=info_parts info_string
 have HI:=Lib.hid (And.intro hi (And.intro hz0 (And.intro hz1 hz2)))
 clear hi hz0 hz1 hz2
 have HSL:=Lib.hid (size_list s)
 obtain ⟨WL,hWL⟩:∃ WL,wordsL s.data.toList=WL:=⟨_,rfl⟩
 rw [hWL]
 have HWL:=Lib.hid hWL
 clear hWL
 go_enter Tryz.func42,Tryz.ntmps42
 go_wp2
 go_loopw [3,4,5] (fun s3 s4 s5 wr=>RWordsAt w s.data.toList s3 s4 s5 wr) (fun _ _ s5 _=>s.size - (intOf s5).toNat)
 case atStart=>exact ⟨0,⟨#[]⟩,[],Nat.zero_le _,rfl,rfl,Nat.le_refl _,Nat.le_refl _,World.ownsRow_nil _ _ _ _,rfl,Below.refl _ _⟩
 case round =>
  obtain ⟨k,t,out,hk,rfl,rfl,htk,hok,hown,hW,hnx⟩:=hrel
  rw [HSL.out] at hk
  have HW:=Lib.hid hW
  clear hW
  have hsz:=hnx.size
  by_cases hlt:k < s.size
  ·have hd:=drop_at s k hlt
   have hcb:s[k].toNat < 256:=UInt8.toNat_lt _
   by_cases h35:s[k].toNat=35
   ·have h35b:((s[k].toNat:Int) != 35)=false:=by rw [bne_eq_false_iff_eq];omega
    have HSD:Hid (said (s.data.toList.drop k)=[]):=Lib.hid (by
     rw [hd,said,if_pos (UInt8.toNat_inj.1 h35)])
    clear hd h35
    by_cases hte:t.data.toList=[]
    ·obtain rfl:t=⟨#[]⟩:=by rw [←mkB_list t,hte];rfl
     have HN:Hid (WL=out):=Lib.hid (by rw [←HWL.out,HW.out,HSD.out];simp [fieldsGo])
     clear hte
     go_wp2
     go_ret
     exact ⟨_,rfl,by rw [HN.out];exact hown,hnx⟩
    ·have HN:Hid (WL=out++[t.data.toList]):=Lib.hid (by rw [←HWL.out,HW.out,HSD.out];simp [fieldsGo,hte])
     have ht1:(!t.toList.isEmpty)=true:=by
      rw [ByteArray.toList_eq]
      cases hh:t.data.toList with
      | nil=>exact absurd hh hte
      | cons x r=>rfl
     clear hte
     go_wp2_with (at_builtin;refine wpList_append_own _ rfl _ _ 67 rfl w.heap.size 9 i0 (.string ⟨#[]⟩) 1 16 Tryz.underlying67 HI.out.1 HI.out.2.1 HI.out.2.2.1 HI.out.2.2.2 rfl (by decide) _ _ _ rfl (hown.alloc _) ⟨wr.heap.size,0,none⟩ 1 1 [.string t] rfl rfl (cell_one_new _ _ _) (by intro u hu;simp at hu;subst hu;rfl) (by rw [List.length_map];unfold maxLen;omega) (by rw [List.length_map];omega) (by simp;omega) ?_;intro v' w1 hown' hgrow _)
     go_ret
     exact ⟨_,rfl,by rw [HN.out];rw [List.map_append,List.map_append,List.length_append];simpa [mkB_list] using hown',below_grown (hnx.alloc hsz _) (by simp;omega) (hown.alloc _) hgrow⟩
   ·have h35b:((s[k].toNat:Int) != 35)=true:=by rw [bne_iff_ne];omega
    have HSD:Hid (said (s.data.toList.drop k)=s[k]::said (s.data.toList.drop (k+1))):=Lib.hid (by
     rw [hd,said,if_neg (fun e=>h35 (by rw [e];rfl))])
    have hgd:=gapB_dec s[k]
    clear hd
    by_cases h9:s[k].toNat=9
    ·have HG:Hid (gapB s[k]=true):=Lib.hid (by rw [hgd];exact decide_eq_true (.inl h9))
     have n9:((s[k].toNat:Int)==9)=true:=by rw [beq_iff_eq];omega
     clear hgd h9 h35
     by_cases hte:t.data.toList=[]
     ·obtain rfl:t=⟨#[]⟩:=by rw [←mkB_list t,hte];rfl
      have HN:Hid (WL=out++fieldsGo [] (said (s.data.toList.drop (k+1)))):=Lib.hid (by rw [←HWL.out,HW.out,HSD.out,show (ByteArray.mk #[]).data.toList=[] from rfl,fieldsGo_skip _ _ HG.out])
      clear hte
      go_wp2
      go_roundw
      case rel=>exact ⟨k+1,⟨#[]⟩,out,by rw [HSL.out];omega,by go_num,rfl,Nat.zero_le _,by omega,hown,by rw [HWL.out];exact HN.out,hnx⟩
      case measure=>simp [intOf];omega
     ·have HN:Hid (WL=(out++[t.data.toList])++fieldsGo [] (said (s.data.toList.drop (k+1)))):=Lib.hid (by rw [←HWL.out,HW.out,HSD.out,fieldsGo_end _ _ _ HG.out hte];simp)
      have ht1:(!t.toList.isEmpty)=true:=by
       rw [ByteArray.toList_eq]
       cases hh:t.data.toList with
       | nil=>exact absurd hh hte
       | cons x r=>rfl
      clear hte
      go_wp2_with (at_builtin;refine wpList_append_own _ rfl _ _ 67 rfl w.heap.size 9 i0 (.string ⟨#[]⟩) 1 16 Tryz.underlying67 HI.out.1 HI.out.2.1 HI.out.2.2.1 HI.out.2.2.2 rfl (by decide) _ _ _ rfl (hown.alloc _) ⟨wr.heap.size,0,none⟩ 1 1 [.string t] rfl rfl (cell_one_new _ _ _) (by intro u hu;simp at hu;subst hu;rfl) (by rw [List.length_map];unfold maxLen;omega) (by rw [List.length_map];omega) (by simp;omega) ?_;intro v' w1 hown' hgrow _)
      go_roundw
      case rel=>exact ⟨k+1,⟨#[]⟩,out++[t.data.toList],by rw [HSL.out];omega,by go_num,rfl,Nat.zero_le _,by simp;omega,by rw [List.map_append,List.map_append,List.length_append];simpa [mkB_list] using hown',by rw [HWL.out];exact HN.out,below_grown (hnx.alloc hsz _) (by simp;omega) (hown.alloc _) hgrow⟩
      case measure=>simp [intOf];omega
    ·have n9:((s[k].toNat:Int)==9)=false:=by rw [beq_eq_false_iff_ne];omega
     by_cases h32:s[k].toNat=32
     ·have HG:Hid (gapB s[k]=true):=Lib.hid (by rw [hgd];exact decide_eq_true (.inr h32))
      have n32:((s[k].toNat:Int)==32)=true:=by rw [beq_iff_eq];omega
      clear hgd h9 h35 h32
      by_cases hte:t.data.toList=[]
      ·obtain rfl:t=⟨#[]⟩:=by rw [←mkB_list t,hte];rfl
       have HN:Hid (WL=out++fieldsGo [] (said (s.data.toList.drop (k+1)))):=Lib.hid (by rw [←HWL.out,HW.out,HSD.out,show (ByteArray.mk #[]).data.toList=[] from rfl,fieldsGo_skip _ _ HG.out])
       clear hte
       go_wp2
       go_roundw
       case rel=>exact ⟨k+1,⟨#[]⟩,out,by rw [HSL.out];omega,by go_num,rfl,Nat.zero_le _,by omega,hown,by rw [HWL.out];exact HN.out,hnx⟩
       case measure=>simp [intOf];omega
      ·have HN:Hid (WL=(out++[t.data.toList])++fieldsGo [] (said (s.data.toList.drop (k+1)))):=Lib.hid (by rw [←HWL.out,HW.out,HSD.out,fieldsGo_end _ _ _ HG.out hte];simp)
       have ht1:(!t.toList.isEmpty)=true:=by
        rw [ByteArray.toList_eq]
        cases hh:t.data.toList with
        | nil=>exact absurd hh hte
        | cons x r=>rfl
       clear hte
       go_wp2_with (at_builtin;refine wpList_append_own _ rfl _ _ 67 rfl w.heap.size 9 i0 (.string ⟨#[]⟩) 1 16 Tryz.underlying67 HI.out.1 HI.out.2.1 HI.out.2.2.1 HI.out.2.2.2 rfl (by decide) _ _ _ rfl (hown.alloc _) ⟨wr.heap.size,0,none⟩ 1 1 [.string t] rfl rfl (cell_one_new _ _ _) (by intro u hu;simp at hu;subst hu;rfl) (by rw [List.length_map];unfold maxLen;omega) (by rw [List.length_map];omega) (by simp;omega) ?_;intro v' w1 hown' hgrow _)
       go_roundw
       case rel=>exact ⟨k+1,⟨#[]⟩,out++[t.data.toList],by rw [HSL.out];omega,by go_num,rfl,Nat.zero_le _,by simp;omega,by rw [List.map_append,List.map_append,List.length_append];simpa [mkB_list] using hown',by rw [HWL.out];exact HN.out,below_grown (hnx.alloc hsz _) (by simp;omega) (hown.alloc _) hgrow⟩
       case measure=>simp [intOf];omega
     ·have HG:Hid (gapB s[k]=false):=Lib.hid (by rw [hgd];exact decide_eq_false (by omega))
      have n32:((s[k].toNat:Int)==32)=false:=by rw [beq_eq_false_iff_ne];omega
      have HN:Hid (WL=out++fieldsGo (t.data.toList++[s[k]]) (said (s.data.toList.drop (k+1)))):=Lib.hid (by rw [←HWL.out,HW.out,HSD.out,fieldsGo_snoc _ _ _ HG.out])
      obtain ⟨u,hu⟩:∃ u,s.extract k (k+1)=u:=⟨_,rfl⟩
      have hud:u.data.toList=[s[k]]:=by
       rw [←hu,piece_mid,mkB_data,drop_at s k hlt];simp
      have HUD:=Lib.hid hud
      have hus:u.size=1:=by rw [←size_list,hud];rfl
      have HUS:=Lib.hid hus
      have z1:¬ 9223372036854775807 < t.size+u.size:=by omega
      have c1:(0:Int)≤↑k:=by omega
      have c2:(↑k:Int)+1≤↑s.size:=by omega
      clear hgd h9 h35 h32 hud hus
      go_wp2
      go_roundw
      case rel=>exact ⟨k+1,t++u,out,by rw [HSL.out];omega,by go_num,rfl,by rw [←size_list,bytes_add,List.length_append,size_list,size_list,HUS.out];omega,by omega,hown,by rw [HWL.out,bytes_add,HUD.out];exact HN.out,hnx⟩
      case measure=>simp [intOf];omega
  ·have HSD:Hid (said (s.data.toList.drop k)=[]):=Lib.hid (by
    rw [List.drop_eq_nil_of_le (by rw [HSL.out];omega)];rfl)
   by_cases hte:t.data.toList=[]
   ·obtain rfl:t=⟨#[]⟩:=by rw [←mkB_list t,hte];rfl
    have HN:Hid (WL=out):=Lib.hid (by rw [←HWL.out,HW.out,HSD.out];simp [fieldsGo])
    clear hte
    go_wp2
    go_ret
    exact ⟨_,rfl,by rw [HN.out];exact hown,hnx⟩
   ·have HN:Hid (WL=out++[t.data.toList]):=Lib.hid (by rw [←HWL.out,HW.out,HSD.out];simp [fieldsGo,hte])
    have ht1:(!t.toList.isEmpty)=true:=by
     rw [ByteArray.toList_eq]
     cases hh:t.data.toList with
     | nil=>exact absurd hh hte
     | cons x r=>rfl
    clear hte
    go_wp2_with (at_builtin;refine wpList_append_own _ rfl _ _ 67 rfl w.heap.size 9 i0 (.string ⟨#[]⟩) 1 16 Tryz.underlying67 HI.out.1 HI.out.2.1 HI.out.2.2.1 HI.out.2.2.2 rfl (by decide) _ _ _ rfl (hown.alloc _) ⟨wr.heap.size,0,none⟩ 1 1 [.string t] rfl rfl (cell_one_new _ _ _) (by intro u hu;simp at hu;subst hu;rfl) (by rw [List.length_map];unfold maxLen;omega) (by rw [List.length_map];omega) (by simp;omega) ?_;intro v' w1 hown' hgrow _)
    go_ret
    exact ⟨_,rfl,by rw [HN.out];rw [List.map_append,List.map_append,List.length_append];simpa [mkB_list] using hown',below_grown (hnx.alloc hsz _) (by simp;omega) (hown.alloc _) hgrow⟩
end Go.Proofs.YtdegffffcbhjbaaGreatDoor
end
