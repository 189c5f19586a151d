/- ChartDocAdd -/
import Derived.Test.YtdhfpgjnjlcciaaGreatDoorQ14
import Derived.Test.YtdhfpgjnjlcciaaGreatDoorQ16
namespace Go.Proofs.YtdhfpgjnjlcciaaGreatDoor.Un
open Go.RowKit
theorem zia:InfoE Tryz.prog 34 151 encA :=
 InfoE.of (z:=aggF zeroA) (n:=56) Tryz.underlying34 (by kernel_rfl) (by kernel_rfl) (by decide)
theorem YR:∀ (L:List Acct) (x:Acct),insL L x=G.insR Acct.code L x
 | [],_=>rfl
 | a::L,x=>by
   have ih:=YR L x
   simp only [insL,G.insR]
   by_cases h:gtS a.code x.code=true
   ·rw [if_pos h,if_pos (show G.KeyO.lt (Acct.code x) (Acct.code a)=true from (qN _ _).1 h)]
   ·rw [if_neg h,if_neg (show ¬ G.KeyO.lt (Acct.code x) (Acct.code a)=true from fun h'=>h ((qN _ _).2 h')),ih]
theorem zdE {L:List Acct} {c:ByteArray} (h:(findL L c).isSome=false):∀ (j:Nat) (y:Acct),L[j]?=some y→y.code≠c:=fun j y hy e=>by
 have:=K5 (List.mem_of_getElem? hy)
 rw [e,h] at this;cases this
theorem kz {α:Type} {E:Enc α} {w w':World} {p:Option Addr} {L:List α} (h:∀ (i:Nat) (x:α),L[i]?=some x→∃ b o,p=some ⟨b,o,none⟩∧ElAt E w b (o+i * E.k) x) (hb:Below w.heap.size w w'):∀ (i:Nat) (x:α),L[i]?=some x→∃ b o,p=some ⟨b,o,none⟩∧ElAt E w' b (o+i * E.k) x:=fun i x hx=>by
 obtain ⟨b,o,e,hat⟩:=h i x hx
 exact ⟨b,o,e,hat.keep hb hat.lt⟩
set_option maxRecDepth 100000 in
set_option maxHeartbeats 8000000 in
theorem zbL (v:Value) (L:List Acct) (x:Acct) (w:World) (h:ElsV encA w v L) (hL:L.length≤1000) :
 Calls Tryz.prog 97 #[v,aggF x] w (ZP encA w v (G.insR Acct.code L x) (addE L x)):=by
 have hB0:=(Below.refl w.heap.size w).alloc (Nat.le_refl _) (.cells (encA.cs x).toArray 151)
 have HX:=Lib.hid (BoxE.new encA w x 151)
 have HV:=Lib.hid (h.keep hB0)
 have HB:=Lib.hid hB0
 have HF:=Lib.hid (Qg v L x.code (w.alloc (.cells (encA.cs x).toArray 151)) (jR.2 HV.out))
 obtain ⟨p,c,e,hcap,hm,_,hc⟩:=HV.out
 subst e
 obtain ⟨n,hn⟩:∃ n,L.length=n:=⟨_,rfl⟩
 rw [hn] at hcap hL HV HF ⊢
 obtain ⟨FA,hFA⟩:∃ FA,findV (findL L x.code)=FA:=⟨_,rfl⟩
 obtain ⟨IS,hIS⟩:∃ IS,(findL L x.code).isSome=IS:=⟨_,rfl⟩
 rw [hFA,hIS] at HF
 obtain ⟨RT,hRT⟩:∃ RT,rightA x=RT:=⟨_,rfl⟩
 have HRI:=Lib.hid (zV x)
 rw [hRT] at HRI
 obtain ⟨N,hN⟩:∃ N,addE L x=N:=⟨_,rfl⟩
 rw [hN]
 have HNE:Hid (N=if RT=false then 1 else if IS=true then 7 else if 60≤n then 4 else 0):=Lib.hid (by rw [←hN,←hRT,←hIS,←hn];rfl)
 have HI:=Lib.hid zia
 have HN:=Lib.hid hn
 have HISV:=Lib.hid hIS
 unfold maxLen at hm
 obtain ⟨q0,q1,q2,q3,q4,q5⟩:=acct6 HX.out.at0
 have HC0:=Lib.hid hc
 clear h hB0 hn hFA hIS hRT hN hc
 go_enter Tryz.func97,Tryz.ntmps97
 go_wp2_with fail
 refine HF.out.mono ?_
 rintro en w1 ⟨rfl,hb1⟩
 have HB1:=Lib.hid (HB.out.trans (hb1.mono HB.out.size))
 have HX1:=Lib.hid (HX.out.kept hb1)
 have HV1:=Lib.hid (HV.out.keep hb1)
 have HC1:=Lib.hid (kz HC0.out hb1)
 clear hb1 HF HB HX HV HC0 q0 q1 q2 q3 q4 q5
 have HBA:=Lib.hid ((Below.refl w1.heap.size w1).alloc (Nat.le_refl _) (.cells (encA.cs zeroA).toArray 151))
 go_wp2_with (refine qp rfl 151 (.tmp 6) (.tmp 16) rfl w1.heap.size zeroA FA 151 rfl rfl (BoxA.new w1 zeroA _) (by kernel_rfl) ?_;intro w2 hb2 hg2;have HG2:Hid (Below w1.heap.size w1 w2):=Lib.hid (HBA.out.grown hg2 HBA.out.size (fun j hj=>by cases hj;exact Nat.le_refl _));have HX2:=Lib.hid (HX1.out.kept HG2.out);obtain ⟨q0,q1,q2,q3,q4,q5⟩:=acct6 HX2.out.at0;clear hb2 hg2)
 refine (HRI.out _).mono ?_
 rintro en w3 ⟨rfl,hb3⟩
 have HB3:=Lib.hid ((HB1.out.trans (HG2.out.mono HB1.out.size)).trans (hb3.mono (Nat.le_trans HB1.out.size HG2.out.size)))
 have HX3:=Lib.hid (HX2.out.kept hb3)
 have HV3:=Lib.hid ((HV1.out.keep HG2.out).keep hb3)
 have HC3:=Lib.hid (kz (kz HC1.out HG2.out) hb3)
 clear hb3 HC1 HG2 HX2 HX1 HV1 HB1 HBA HRI q0 q1 q2 q3 q4 q5
 cases RT with
 | false =>
   have HRS:Hid (N=1):=Lib.hid (by rw [HNE.out,if_pos rfl])
   go_wp2
   go_ret2
   rw [HRS.out]
   exact ⟨_,rfl,fun _=>rfl,fun h=>absurd h (by decide),HB3.out⟩
 | true =>
   cases IS with
   | true =>
     have HRS:Hid (N=7):=Lib.hid (by rw [HNE.out,if_neg (by simp),if_pos rfl])
     go_wp2
     go_ret2
     rw [HRS.out]
     exact ⟨_,rfl,fun _=>rfl,fun h=>absurd h (by decide),HB3.out⟩
   | false =>
     by_cases h60:60≤n
     ·have HRS:Hid (N=4):=Lib.hid (by rw [HNE.out,if_neg (by simp),if_neg (by simp),if_pos h60])
      go_wp2
      go_ret2
      rw [HRS.out]
      exact ⟨_,rfl,fun _=>rfl,fun h=>absurd h (by decide),HB3.out⟩
     ·have HRS:Hid (N=0):=Lib.hid (by rw [HNE.out,if_neg (by simp),if_neg (by simp),if_neg h60])
      have HNO:=Lib.hid (zdE HISV.out)
      have HC:=HC3
      clear HISV HC3
      obtain ⟨W0,hW0⟩:∃ W0,w3=W0:=⟨_,rfl⟩
      subst hW0
      have HST:Hid (InsAt encA Acct.code 151 w3 w3 L x 0 (.slice none 0 0)):=Lib.hid ⟨World.ownsRow_nil _ _ _ _,Below.refl _ _,fun j y _ hy=>HNO.out j y hy⟩
      go_wp2
      go_loopw [8,9,10] (fun s6 s7 s8 wr=>∃ (i:Nat) (v6:Value),i≤n∧s8=.int .i64 (i:Int)∧v6=s6∧s7=.bool (G.doneR Acct.code (L.take i) x)∧Hid (InsAt encA Acct.code 151 w3 wr L x i v6)) (fun _ _ s8 _=>n - (intOf s8).toNat)
      case atStart=>exact ⟨0,_,Nat.zero_le _,rfl,rfl,rfl,HST⟩
      case round =>
       obtain ⟨i,v6,hi,rfl,rfl,rfl,HA⟩:=hrel
       by_cases hlt:i < n
       ·obtain ⟨y,hy⟩:∃ y,L[i]?=some y:=⟨_,List.getElem?_eq_getElem (by rw [HN.out];exact hlt)⟩
        obtain ⟨b,o,rfl,hat⟩:=HC.out i y hy
        obtain ⟨d0,d1,d2,d3,d4,d5⟩:=acct6 (hat.keep HA.out.bel hat.lt)
        obtain ⟨q0,q1,q2,q3,q4,q5⟩:=acct6 ((HX3.out.keep HA.out.bel HX3.out.lt).at0)
        have HY:=Lib.hid hy
        have HAT:=Lib.hid hat
        have HTK:Hid (L.take (i+1)=L.take i++[y]):=Lib.hid (by rw [List.take_succ_eq_append_getElem (by rw [HN.out];exact hlt),(List.getElem?_eq_some_iff.1 hy).2])
        obtain ⟨D,hD⟩:∃ D,G.doneR Acct.code (L.take i) x=D:=⟨_,rfl⟩
        have HD:=Lib.hid hD
        rw [hD]
        clear hy hat hD
        have HYE:=Lib.hid (HNO.out i y HY.out)
        cases D with
        | true =>
          go_wp2_with fail
          go_big_quiet (fail)
          have HA2:=Lib.hid (HA.out.drewN nq)
          clear d0 d1 d2 d3 d4 d5 q0 q1 q2 q3 q4 q5 HA
          generalize wr.drewN nq=w2 at *
          obtain ⟨d0,d1,d2,d3,d4,d5⟩:=acct6 (HAT.out.keep HA2.out.bel HAT.out.lt)
          obtain ⟨q0,q1,q2,q3,q4,q5⟩:=acct6 ((HX3.out.keep HA2.out.bel HX3.out.lt).at0)
          have HBN:=Lib.hid ((Below.refl w2.heap.size w2).alloc (Nat.le_refl _) (.cells (encA.cs y).toArray 151))
          go_wp2_with (at_builtin;refine zx (E:=encA) rfl _ _ 34 151 rfl HI.out w3.heap.size _ y w2.heap.size (HA2.out.own.alloc _) rfl (zf encA w2 y _) (by have:=HA2.out.bel.size;simp;omega) (zZ HN.out hL) ?_;intro v9 w9 hr9 hb9 hg9)
          have HA9:Hid (InsAt encA Acct.code 151 w3 w9 L x (i+1) v9):=Lib.hid ⟨by rw [HTK.out,G.kg y HD.out];exact hr9,(HA2.out.bel.trans (HBN.out.mono HA2.out.bel.size)).trans hb9,zU HA2.out.no HY.out HYE.out⟩
          have HD9:Hid (G.doneR Acct.code (L.take (i+1)) x=true):=Lib.hid (by rw [HTK.out,G.zO,HD.out];first | rfl | (rw [HLT.out];rfl))
          clear hr9 hb9 hg9 d0 d1 d2 d3 d4 d5 q0 q1 q2 q3 q4 q5
          go_wp2
          go_roundw
          case rel=>exact ⟨i+1,_,by omega,by go_num,rfl,by rw [HD9.out],HA9⟩
          case measure=>simp [intOf];omega
        | false =>
          cases hlx:gtS y.code x.code with
          | true =>
            have HLT:Hid (G.KeyO.lt (Acct.code x) (Acct.code y)=true):=Lib.hid ((qN _ _).1 hlx)
            unfold gtS ltS at hlx
            simp only [Bool.not_eq_true',Bool.or_eq_false_iff] at hlx
            obtain ⟨g1,g2⟩:=hlx
            go_wp2_with fail
            go_big_quiet (fail)
            clear g1 g2
            have HA2:=Lib.hid (HA.out.drewN nq)
            clear d0 d1 d2 d3 d4 d5 q0 q1 q2 q3 q4 q5 HA
            generalize wr.drewN nq=w2 at *
            obtain ⟨d0,d1,d2,d3,d4,d5⟩:=acct6 (HAT.out.keep HA2.out.bel HAT.out.lt)
            obtain ⟨q0,q1,q2,q3,q4,q5⟩:=acct6 ((HX3.out.keep HA2.out.bel HX3.out.lt).at0)
            have HBN:=Lib.hid ((Below.refl w2.heap.size w2).alloc (Nat.le_refl _) (.cells (encA.cs x).toArray 151))
            go_wp2_with (at_builtin;first
             | (refine zx (E:=encA) rfl _ _ 34 151 rfl HI.out w3.heap.size _ x w2.heap.size (HA2.out.own.alloc _) rfl (zf encA w2 x _) (by have:=HA2.out.bel.size;simp;omega) (zZ HN.out hL) ?_;intro v8 w8 hr8 hb8 hg8;have HB8:Hid (Below w3.heap.size w3 w8):=Lib.hid ((HA2.out.bel.trans (HBN.out.mono HA2.out.bel.size)).trans hb8);have HO8:=Lib.hid hr8;have HB9:=Lib.hid ((Below.refl w8.heap.size w8).alloc (Nat.le_refl _) (.cells (encA.cs y).toArray 151));clear d0 d1 d2 d3 d4 d5 q0 q1 q2 q3 q4 q5 hr8 hb8 hg8;obtain ⟨d0,d1,d2,d3,d4,d5⟩:=acct6 (HAT.out.keep HB8.out HAT.out.lt))
             | (refine zx (E:=encA) rfl _ _ 34 151 rfl HI.out w3.heap.size _ y w8.heap.size (HO8.out.alloc _) rfl (zf encA w8 y _) (by have:=HB8.out.size;simp;omega) (kW HN.out hL) ?_;intro v9 w9 hr9 hb9 hg9)
             | fail)
            have HA9:Hid (InsAt encA Acct.code 151 w3 w9 L x (i+1) v9):=Lib.hid ⟨by rw [HTK.out,G.kK HD.out HLT.out];exact hr9,(HB8.out.trans (HB9.out.mono HB8.out.size)).trans hb9,zU HA2.out.no HY.out HYE.out⟩
            have HD9:Hid (G.doneR Acct.code (L.take (i+1)) x=true):=Lib.hid (by rw [HTK.out,G.zO,HD.out,HLT.out];rfl)
            clear hr9 hb9 hg9 d0 d1 d2 d3 d4 d5
            go_wp2
            go_roundw
            case rel=>exact ⟨i+1,_,by omega,by go_num,rfl,by rw [HD9.out],HA9⟩
            case measure=>simp [intOf];omega
          | false =>
            have HLT:Hid (G.KeyO.lt (Acct.code x) (Acct.code y)=false):=Lib.hid (by
             cases hh:G.KeyO.lt (Acct.code x) (Acct.code y) with
             | false=>rfl
             | true=>rw [(qN y.code x.code).2 hh] at hlx;cases hlx)
            unfold gtS ltS at hlx
            simp only [Bool.not_eq_false'] at hlx
            go_wp2_with fail
            go_big_quiet (fail)
            clear hlx
            have HA2:=Lib.hid (HA.out.drewN nq)
            clear d0 d1 d2 d3 d4 d5 q0 q1 q2 q3 q4 q5 HA
            generalize wr.drewN nq=w2 at *
            obtain ⟨d0,d1,d2,d3,d4,d5⟩:=acct6 (HAT.out.keep HA2.out.bel HAT.out.lt)
            obtain ⟨q0,q1,q2,q3,q4,q5⟩:=acct6 ((HX3.out.keep HA2.out.bel HX3.out.lt).at0)
            have HBN:=Lib.hid ((Below.refl w2.heap.size w2).alloc (Nat.le_refl _) (.cells (encA.cs y).toArray 151))
            go_wp2_with (at_builtin;refine zx (E:=encA) rfl _ _ 34 151 rfl HI.out w3.heap.size _ y w2.heap.size (HA2.out.own.alloc _) rfl (zf encA w2 y _) (by have:=HA2.out.bel.size;simp;omega) (zZ HN.out hL) ?_;intro v9 w9 hr9 hb9 hg9)
            have HA9:Hid (InsAt encA Acct.code 151 w3 w9 L x (i+1) v9):=Lib.hid ⟨by rw [HTK.out,G.k9 HD.out HLT.out];exact hr9,(HA2.out.bel.trans (HBN.out.mono HA2.out.bel.size)).trans hb9,zU HA2.out.no HY.out HYE.out⟩
            have HD9:Hid (G.doneR Acct.code (L.take (i+1)) x=false):=Lib.hid (by rw [HTK.out,G.zO,HD.out];first | rfl | (rw [HLT.out];rfl))
            clear hr9 hb9 hg9 d0 d1 d2 d3 d4 d5 q0 q1 q2 q3 q4 q5
            go_wp2
            go_roundw
            case rel=>exact ⟨i+1,_,by omega,by go_num,rfl,by rw [HD9.out],HA9⟩
            case measure=>simp [intOf];omega
       ·have hTA:Hid (L.take i=L):=Lib.hid (List.take_of_length_le (by rw [HN.out];omega))
        rw [hTA.out]
        obtain ⟨D,hD⟩:∃ D,G.doneR Acct.code L x=D:=⟨_,rfl⟩
        have HD:=Lib.hid hD
        rw [hD]
        clear hD
        have HO:=Lib.hid HA.out.own
        rw [hTA.out] at HO
        cases D with
        | true =>
          go_wp2
          go_ret2
          rw [HRS.out]
          exact ⟨_,rfl,fun h=>absurd rfl h,fun _=>⟨_,by rw [←G.vo HD.out];exact zw HO.out HB3.out.size⟩,HB3.out.trans (HA.out.bel.mono HB3.out.size)⟩
        | false =>
          obtain ⟨q0,q1,q2,q3,q4,q5⟩:=acct6 ((HX3.out.keep HA.out.bel HX3.out.lt).at0)
          have HBN:=Lib.hid ((Below.refl wr.heap.size wr).alloc (Nat.le_refl _) (.cells (encA.cs x).toArray 151))
          go_wp2_with (at_builtin;refine zx (E:=encA) rfl _ _ 34 151 rfl HI.out w3.heap.size _ x wr.heap.size (HO.out.alloc _) rfl (zf encA wr x _) (by have:=HA.out.bel.size;simp;omega) (vN HN.out hL) ?_;intro v9 w9 hr9 hb9 hg9)
          have HO9:=Lib.hid hr9
          have HB9:=Lib.hid ((HA.out.bel.trans (HBN.out.mono HA.out.bel.size)).trans hb9)
          clear hr9 hb9 hg9 q0 q1 q2 q3 q4 q5
          go_wp2
          go_ret2
          rw [HRS.out]
          exact ⟨_,rfl,fun h=>absurd rfl h,fun _=>⟨_,by rw [←G.vJ HD.out];exact zw HO9.out HB3.out.size⟩,HB3.out.trans (HB9.out.mono HB3.out.size)⟩
end Go.Proofs.YtdhfpgjnjlcciaaGreatDoor.Un
