/- ChartDocAdd ChartDocParse FlowDocKind -/
import Derived.Test.YtdegffffcbhjbaaGreatDoorQ14
import Derived.Test.YtdegffffcbhjbaaGreatDoorQ15
section
namespace Go.Proofs.YtdegffffcbhjbaaGreatDoor.Un
open Go.RowKit
theorem info_racct:InfoE Tryz.prog 31 107 encA :=
 InfoE.of (z:=aggF zeroA) (n:=56) Tryz.underlying31 (by kernel_rfl) (by kernel_rfl) (by decide)
theorem insL_eqR:∀ (L:List Acct) (x:Acct),insL L x=G.insR Acct.code L x
 | [],_=>rfl
 | a::L,x=>by
   have ih:=insL_eqR L x
   simp only [insL,G.insR]
   by_cases h:gtS a.code x.code=true
   ·rw [if_pos h,if_pos (show G.KeyO.lt (Acct.code x) (Acct.code a)=true from (gtS_iff _ _).1 h)]
   ·rw [if_neg h,if_neg (show ¬ G.KeyO.lt (Acct.code x) (Acct.code a)=true from fun h'=>h ((gtS_iff _ _).2 h')),ih]
theorem none_all {L:List Acct} {c:ByteArray} (h:(findL L c).isSome=false):∀ (j:Nat) (y:Acct),L[j]?=some y→y.code≠c:=fun j y hy e=>by
 have:=findL_some (List.mem_of_getElem? hy)
 rw [e,h] at this;cases this
theorem els_keep {α:Type} {E:Enc α} {w w':World} {p:Option Addr} {L:List α} (h:∀ (i:Nat) (x:α),L[i]?=some x→∃ b o,p=some ⟨b,o,none⟩∧ElAt E w b (o+i * E.k) x) (hb:Below w.heap.size w w'):∀ (i:Nat) (x:α),L[i]?=some x→∃ b o,p=some ⟨b,o,none⟩∧ElAt E w' b (o+i * E.k) x:=fun i x hx=>by
 obtain ⟨b,o,e,hat⟩:=h i x hx
 exact ⟨b,o,e,hat.keep hb hat.lt⟩
set_option maxRecDepth 100000 in
set_option maxHeartbeats 8000000 in
theorem rcadd_any (v:Value) (L:List Acct) (x:Acct) (w:World) (h:ElsV encA w v L) (hL:L.length≤1000) :
 Calls Tryz.prog 74 #[v,aggF x] w (ListTold encA w v (G.insR Acct.code L x) (addE L x)):=by
 have hB0:=(Below.refl w.heap.size w).alloc (Nat.le_refl _) (.cells (encA.cs x).toArray 107)
 have HX:=Lib.hid (BoxE.new encA w x 107)
 have HV:=Lib.hid (h.keep hB0)
 have HB:=Lib.hid hB0
 have HF:=Lib.hid (rcfind_any v L x.code (w.alloc (.cells (encA.cs x).toArray 107)) (chart_els.2 HV.out))
 obtain ⟨p,c,e,hcap,hm,_,hc⟩:=HV.out
 subst e
 obtain ⟨n,hn⟩:∃ n,L.length=n:=⟨_,rfl⟩
 rw [hn] at hcap hL HV HF ⊢
 obtain ⟨FA,hFA⟩:∃ FA,findV (findL L x.code)=FA:=⟨_,rfl⟩
 obtain ⟨IS,hIS⟩:∃ IS,(findL L x.code).isSome=IS:=⟨_,rfl⟩
 rw [hFA,hIS] at HF
 obtain ⟨RT,hRT⟩:∃ RT,rightA x=RT:=⟨_,rfl⟩
 have HRI:=Lib.hid (rright_any x)
 rw [hRT] at HRI
 obtain ⟨N,hN⟩:∃ N,addE L x=N:=⟨_,rfl⟩
 rw [hN]
 have HNE:Hid (N=if RT=false then 1 else if IS=true then 7 else if 60≤n then 4 else 0):=Lib.hid (by rw [←hN,←hRT,←hIS,←hn];rfl)
 have HI:=Lib.hid info_racct
 have HN:=Lib.hid hn
 have HISV:=Lib.hid hIS
 unfold maxLen at hm
 obtain ⟨q0,q1,q2,q3,q4,q5⟩:=acct6 HX.out.at0
 have HC0:=Lib.hid hc
 clear h hB0 hn hFA hIS hRT hN hc
 go_enter Tryz.func74,Tryz.ntmps74
 go_wp2_with fail
 refine HF.out.mono ?_
 rintro en w1 ⟨rfl,hb1⟩
 have HB1:=Lib.hid (HB.out.trans (hb1.mono HB.out.size))
 have HX1:=Lib.hid (HX.out.kept hb1)
 have HV1:=Lib.hid (HV.out.keep hb1)
 have HC1:=Lib.hid (els_keep HC0.out hb1)
 clear hb1 HF HB HX HV HC0 q0 q1 q2 q3 q4 q5
 have HBA:=Lib.hid ((Below.refl w1.heap.size w1).alloc (Nat.le_refl _) (.cells (encA.cs zeroA).toArray 107))
 go_wp2_with (refine wpList_store_acct rfl 107 (.tmp 6) (.tmp 16) rfl w1.heap.size zeroA FA 107 rfl rfl (BoxA.new w1 zeroA _) (by kernel_rfl) ?_;intro w2 hb2 hg2;have HG2:Hid (Below w1.heap.size w1 w2):=Lib.hid (HBA.out.grown hg2 HBA.out.size (fun j hj=>by cases hj;exact Nat.le_refl _));have HX2:=Lib.hid (HX1.out.kept HG2.out);obtain ⟨q0,q1,q2,q3,q4,q5⟩:=acct6 HX2.out.at0;clear hb2 hg2)
 refine (HRI.out _).mono ?_
 rintro en w3 ⟨rfl,hb3⟩
 have HB3:=Lib.hid ((HB1.out.trans (HG2.out.mono HB1.out.size)).trans (hb3.mono (Nat.le_trans HB1.out.size HG2.out.size)))
 have HX3:=Lib.hid (HX2.out.kept hb3)
 have HV3:=Lib.hid ((HV1.out.keep HG2.out).keep hb3)
 have HC3:=Lib.hid (els_keep (els_keep HC1.out HG2.out) hb3)
 clear hb3 HC1 HG2 HX2 HX1 HV1 HB1 HBA HRI q0 q1 q2 q3 q4 q5
 cases RT with
 | false =>
   have HRS:Hid (N=1):=Lib.hid (by rw [HNE.out,if_pos rfl])
   go_wp2
   go_ret2
   rw [HRS.out]
   exact ⟨_,rfl,fun _=>rfl,fun h=>absurd h (by decide),HB3.out⟩
 | true =>
   cases IS with
   | true =>
     have HRS:Hid (N=7):=Lib.hid (by rw [HNE.out,if_neg (by simp),if_pos rfl])
     go_wp2
     go_ret2
     rw [HRS.out]
     exact ⟨_,rfl,fun _=>rfl,fun h=>absurd h (by decide),HB3.out⟩
   | false =>
     by_cases h60:60≤n
     ·have HRS:Hid (N=4):=Lib.hid (by rw [HNE.out,if_neg (by simp),if_neg (by simp),if_pos h60])
      go_wp2
      go_ret2
      rw [HRS.out]
      exact ⟨_,rfl,fun _=>rfl,fun h=>absurd h (by decide),HB3.out⟩
     ·have HRS:Hid (N=0):=Lib.hid (by rw [HNE.out,if_neg (by simp),if_neg (by simp),if_neg h60])
      have HNO:=Lib.hid (none_all HISV.out)
      have HC:=HC3
      clear HISV HC3
      obtain ⟨W0,hW0⟩:∃ W0,w3=W0:=⟨_,rfl⟩
      subst hW0
      have HST:Hid (InsAt encA Acct.code 107 w3 w3 L x 0 (.slice none 0 0)):=Lib.hid ⟨World.ownsRow_nil _ _ _ _,Below.refl _ _,fun j y _ hy=>HNO.out j y hy⟩
      go_wp2
      go_loopw [8,9,10] (fun s6 s7 s8 wr=>∃ (i:Nat) (v6:Value),i≤n∧s8=.int .i64 (i:Int)∧v6=s6∧s7=.bool (G.doneR Acct.code (L.take i) x)∧Hid (InsAt encA Acct.code 107 w3 wr L x i v6)) (fun _ _ s8 _=>n - (intOf s8).toNat)
      case atStart=>exact ⟨0,_,Nat.zero_le _,rfl,rfl,rfl,HST⟩
      case round =>
       obtain ⟨i,v6,hi,rfl,rfl,rfl,HA⟩:=hrel
       by_cases hlt:i < n
       ·obtain ⟨y,hy⟩:∃ y,L[i]?=some y:=⟨_,List.getElem?_eq_getElem (by rw [HN.out];exact hlt)⟩
        obtain ⟨b,o,rfl,hat⟩:=HC.out i y hy
        obtain ⟨d0,d1,d2,d3,d4,d5⟩:=acct6 (hat.keep HA.out.bel hat.lt)
        obtain ⟨q0,q1,q2,q3,q4,q5⟩:=acct6 ((HX3.out.keep HA.out.bel HX3.out.lt).at0)
        have HY:=Lib.hid hy
        have HAT:=Lib.hid hat
        have HTK:Hid (L.take (i+1)=L.take i++[y]):=Lib.hid (by rw [List.take_succ_eq_append_getElem (by rw [HN.out];exact hlt),(List.getElem?_eq_some_iff.1 hy).2])
        obtain ⟨D,hD⟩:∃ D,G.doneR Acct.code (L.take i) x=D:=⟨_,rfl⟩
        have HD:=Lib.hid hD
        rw [hD]
        clear hy hat hD
        have HYE:=Lib.hid (HNO.out i y HY.out)
        cases D with
        | true =>
          go_wp2_with fail
          go_big_quiet (fail)
          have HA2:=Lib.hid (HA.out.drewN nq)
          clear d0 d1 d2 d3 d4 d5 q0 q1 q2 q3 q4 q5 HA
          generalize wr.drewN nq=w2 at *
          obtain ⟨d0,d1,d2,d3,d4,d5⟩:=acct6 (HAT.out.keep HA2.out.bel HAT.out.lt)
          obtain ⟨q0,q1,q2,q3,q4,q5⟩:=acct6 ((HX3.out.keep HA2.out.bel HX3.out.lt).at0)
          have HBN:=Lib.hid ((Below.refl w2.heap.size w2).alloc (Nat.le_refl _) (.cells (encA.cs y).toArray 107))
          go_wp2_with (at_builtin;refine wpList_append_el (E:=encA) rfl _ _ 31 107 rfl HI.out w3.heap.size _ y w2.heap.size (HA2.out.own.alloc _) rfl (el_new encA w2 y _) (by have:=HA2.out.bel.size;simp;omega) (mid_small HN.out hL) ?_;intro v9 w9 hr9 hb9 hg9)
          have HA9:Hid (InsAt encA Acct.code 107 w3 w9 L x (i+1) v9):=Lib.hid ⟨by rw [HTK.out,G.midR_there y HD.out];exact hr9,(HA2.out.bel.trans (HBN.out.mono HA2.out.bel.size)).trans hb9,no_snoc HA2.out.no HY.out HYE.out⟩
          have HD9:Hid (G.doneR Acct.code (L.take (i+1)) x=true):=Lib.hid (by rw [HTK.out,G.doneR_snoc,HD.out];first | rfl | (rw [HLT.out];rfl))
          clear hr9 hb9 hg9 d0 d1 d2 d3 d4 d5 q0 q1 q2 q3 q4 q5
          go_wp2
          go_roundw
          case rel=>exact ⟨i+1,_,by omega,by go_num,rfl,by rw [HD9.out],HA9⟩
          case measure=>simp [intOf];omega
        | false =>
          cases hlx:gtS y.code x.code with
          | true =>
            have HLT:Hid (G.KeyO.lt (Acct.code x) (Acct.code y)=true):=Lib.hid ((gtS_iff _ _).1 hlx)
            unfold gtS ltS at hlx
            simp only [Bool.not_eq_true',Bool.or_eq_false_iff] at hlx
            obtain ⟨g1,g2⟩:=hlx
            go_wp2_with fail
            go_big_quiet (fail)
            clear g1 g2
            have HA2:=Lib.hid (HA.out.drewN nq)
            clear d0 d1 d2 d3 d4 d5 q0 q1 q2 q3 q4 q5 HA
            generalize wr.drewN nq=w2 at *
            obtain ⟨d0,d1,d2,d3,d4,d5⟩:=acct6 (HAT.out.keep HA2.out.bel HAT.out.lt)
            obtain ⟨q0,q1,q2,q3,q4,q5⟩:=acct6 ((HX3.out.keep HA2.out.bel HX3.out.lt).at0)
            have HBN:=Lib.hid ((Below.refl w2.heap.size w2).alloc (Nat.le_refl _) (.cells (encA.cs x).toArray 107))
            go_wp2_with (at_builtin;first
             | (refine wpList_append_el (E:=encA) rfl _ _ 31 107 rfl HI.out w3.heap.size _ x w2.heap.size (HA2.out.own.alloc _) rfl (el_new encA w2 x _) (by have:=HA2.out.bel.size;simp;omega) (mid_small HN.out hL) ?_;intro v8 w8 hr8 hb8 hg8;have HB8:Hid (Below w3.heap.size w3 w8):=Lib.hid ((HA2.out.bel.trans (HBN.out.mono HA2.out.bel.size)).trans hb8);have HO8:=Lib.hid hr8;have HB9:=Lib.hid ((Below.refl w8.heap.size w8).alloc (Nat.le_refl _) (.cells (encA.cs y).toArray 107));clear d0 d1 d2 d3 d4 d5 q0 q1 q2 q3 q4 q5 hr8 hb8 hg8;obtain ⟨d0,d1,d2,d3,d4,d5⟩:=acct6 (HAT.out.keep HB8.out HAT.out.lt))
             | (refine wpList_append_el (E:=encA) rfl _ _ 31 107 rfl HI.out w3.heap.size _ y w8.heap.size (HO8.out.alloc _) rfl (el_new encA w8 y _) (by have:=HB8.out.size;simp;omega) (mid_small1 HN.out hL) ?_;intro v9 w9 hr9 hb9 hg9)
             | fail)
            have HA9:Hid (InsAt encA Acct.code 107 w3 w9 L x (i+1) v9):=Lib.hid ⟨by rw [HTK.out,G.midR_now HD.out HLT.out];exact hr9,(HB8.out.trans (HB9.out.mono HB8.out.size)).trans hb9,no_snoc HA2.out.no HY.out HYE.out⟩
            have HD9:Hid (G.doneR Acct.code (L.take (i+1)) x=true):=Lib.hid (by rw [HTK.out,G.doneR_snoc,HD.out,HLT.out];rfl)
            clear hr9 hb9 hg9 d0 d1 d2 d3 d4 d5
            go_wp2
            go_roundw
            case rel=>exact ⟨i+1,_,by omega,by go_num,rfl,by rw [HD9.out],HA9⟩
            case measure=>simp [intOf];omega
          | false =>
            have HLT:Hid (G.KeyO.lt (Acct.code x) (Acct.code y)=false):=Lib.hid (by
             cases hh:G.KeyO.lt (Acct.code x) (Acct.code y) with
             | false=>rfl
             | true=>rw [(gtS_iff y.code x.code).2 hh] at hlx;cases hlx)
            unfold gtS ltS at hlx
            simp only [Bool.not_eq_false'] at hlx
            go_wp2_with fail
            go_big_quiet (fail)
            clear hlx
            have HA2:=Lib.hid (HA.out.drewN nq)
            clear d0 d1 d2 d3 d4 d5 q0 q1 q2 q3 q4 q5 HA
            generalize wr.drewN nq=w2 at *
            obtain ⟨d0,d1,d2,d3,d4,d5⟩:=acct6 (HAT.out.keep HA2.out.bel HAT.out.lt)
            obtain ⟨q0,q1,q2,q3,q4,q5⟩:=acct6 ((HX3.out.keep HA2.out.bel HX3.out.lt).at0)
            have HBN:=Lib.hid ((Below.refl w2.heap.size w2).alloc (Nat.le_refl _) (.cells (encA.cs y).toArray 107))
            go_wp2_with (at_builtin;refine wpList_append_el (E:=encA) rfl _ _ 31 107 rfl HI.out w3.heap.size _ y w2.heap.size (HA2.out.own.alloc _) rfl (el_new encA w2 y _) (by have:=HA2.out.bel.size;simp;omega) (mid_small HN.out hL) ?_;intro v9 w9 hr9 hb9 hg9)
            have HA9:Hid (InsAt encA Acct.code 107 w3 w9 L x (i+1) v9):=Lib.hid ⟨by rw [HTK.out,G.midR_not HD.out HLT.out];exact hr9,(HA2.out.bel.trans (HBN.out.mono HA2.out.bel.size)).trans hb9,no_snoc HA2.out.no HY.out HYE.out⟩
            have HD9:Hid (G.doneR Acct.code (L.take (i+1)) x=false):=Lib.hid (by rw [HTK.out,G.doneR_snoc,HD.out];first | rfl | (rw [HLT.out];rfl))
            clear hr9 hb9 hg9 d0 d1 d2 d3 d4 d5 q0 q1 q2 q3 q4 q5
            go_wp2
            go_roundw
            case rel=>exact ⟨i+1,_,by omega,by go_num,rfl,by rw [HD9.out],HA9⟩
            case measure=>simp [intOf];omega
       ·have hTA:Hid (L.take i=L):=Lib.hid (List.take_of_length_le (by rw [HN.out];omega))
        rw [hTA.out]
        obtain ⟨D,hD⟩:∃ D,G.doneR Acct.code L x=D:=⟨_,rfl⟩
        have HD:=Lib.hid hD
        rw [hD]
        clear hD
        have HO:=Lib.hid HA.out.own
        rw [hTA.out] at HO
        cases D with
        | true =>
          go_wp2
          go_ret2
          rw [HRS.out]
          exact ⟨_,rfl,fun h=>absurd rfl h,fun _=>⟨_,by rw [←G.midR_end HD.out];exact row_base HO.out HB3.out.size⟩,HB3.out.trans (HA.out.bel.mono HB3.out.size)⟩
        | false =>
          obtain ⟨q0,q1,q2,q3,q4,q5⟩:=acct6 ((HX3.out.keep HA.out.bel HX3.out.lt).at0)
          have HBN:=Lib.hid ((Below.refl wr.heap.size wr).alloc (Nat.le_refl _) (.cells (encA.cs x).toArray 107))
          go_wp2_with (at_builtin;refine wpList_append_el (E:=encA) rfl _ _ 31 107 rfl HI.out w3.heap.size _ x wr.heap.size (HO.out.alloc _) rfl (el_new encA wr x _) (by have:=HA.out.bel.size;simp;omega) (mid_small0 HN.out hL) ?_;intro v9 w9 hr9 hb9 hg9)
          have HO9:=Lib.hid hr9
          have HB9:=Lib.hid ((HA.out.bel.trans (HBN.out.mono HA.out.bel.size)).trans hb9)
          clear hr9 hb9 hg9 q0 q1 q2 q3 q4 q5
          go_wp2
          go_ret2
          rw [HRS.out]
          exact ⟨_,rfl,fun h=>absurd rfl h,fun _=>⟨_,by rw [←G.midR_last HD.out];exact row_base HO9.out HB3.out.size⟩,HB3.out.trans (HB9.out.mono HB3.out.size)⟩
end Go.Proofs.YtdegffffcbhjbaaGreatDoor.Un
end
section
namespace Go.Proofs.YtdegffffcbhjbaaGreatDoor
open Go.RowKit
theorem words_le (a:Acct):(wordsA a).length≤5:=by
 unfold wordsA
 split
 ·unfold markW;split
  ·simp
  ·split
   ·simp
   ·split
    ·simp
    ·split <;> simp
 ·simp
theorem parse_long {ws:List ByteArray} (h:5 < ws.length):parseA ws=(zeroA,5):=by
 rcases parse_err ws with e | ⟨e,_,_⟩
 ·exact e
 ·have:=words_le (parseA ws).1
  rw [e] at this;omega
theorem parse_short {ws:List ByteArray} (h:ws.length < 3):parseA ws=(zeroA,5):=by unfold parseA;rw [if_pos h]
theorem cand_of {a:Acct} {ws:List ByteArray} {x l:ByteArray} (hr:rightA a=true) (hw:wordsA a=ws) (hx:ws[1]?=some x) (hl:ws[ws.length - 1]?=some l):∃ c k,c < 3∧k < 5∧a=docC x l c k:=by
 obtain ⟨_,h2,h3⟩:=right_parts hr
 have hw':ws=tAccount::a.code::clsW a.cls::markW a:=by rw [←hw];unfold wordsA;rw [if_pos hr]
 have hxc:x=a.code:=by rw [hw'] at hx;simpa using hx.symm
 obtain ⟨c,hc,hcl⟩:∃ c:Nat,c < 3∧a.cls=(c:Int):=by
  rcases h2 with h | h | h
  ·exact ⟨0,by omega,by rw [h];rfl⟩
  ·exact ⟨1,by omega,by rw [h];rfl⟩
  ·exact ⟨2,by omega,by rw [h];rfl⟩
 subst hxc
 rcases marks_ways h3 with ⟨e1,e2,e3,e4⟩ | ⟨e1,e2,e3,e4,_⟩ | ⟨e1,e2,e3,e4,_⟩ | ⟨e1,e2,e3,e6,e4,_⟩ | ⟨e1,e2,e3,e6,e4,_⟩
 ·exact ⟨c,0,hc,by omega,Acct.ext' rfl hcl e1 e2 e3 e4⟩
 ·exact ⟨c,1,hc,by omega,Acct.ext' rfl hcl e1 e2 e3 e4⟩
 ·exact ⟨c,2,hc,by omega,Acct.ext' rfl hcl e1 e2 e3 e4⟩
 ·refine ⟨c,3,hc,by omega,Acct.ext' rfl hcl e1 e2 ?_ e4⟩
  rw [hw'] at hl
  simp [markW,e1,e2,e4,e6] at hl
  simpa [docC] using hl
 ·refine ⟨c,4,hc,by omega,Acct.ext' rfl hcl e1 e2 ?_ e4⟩
  rw [hw'] at hl
  simp [markW,e1,e2,e4] at hl
  simpa [docC] using hl
theorem parse_none {ws:List ByteArray} {x l:ByteArray} (hx:ws[1]?=some x) (hl:ws[ws.length - 1]?=some l) (h:∀ c k,c < 3→k < 5→¬ Good x l ws c k):parseA ws=(zeroA,5):=by
 rcases parse_err ws with e | ⟨e,hr,_⟩
 ·exact e
 ·obtain ⟨c,k,hc,hk,ha⟩:=cand_of hr e hx hl
  exact absurd ⟨ha ▸ hr,ha ▸ e⟩ (h c k hc hk)
def NoneTo (x l:ByteArray) (ws:List ByteArray) (c k:Nat):Prop:=∀ c' k',k' < 5→(c' < c∨c'=c∧k' < k)→¬ Good x l ws c' k'
theorem NoneTo.next {x l:ByteArray} {ws:List ByteArray} {c k:Nat} (h:NoneTo x l ws c k) (hn:¬ Good x l ws c k):NoneTo x l ws c (k+1):=fun c' k' hk' hd hg=>by
 by_cases he:c'=c∧k'=k
 ·obtain ⟨rfl,rfl⟩:=he;exact hn hg
 ·exact h c' k' hk' (by omega) hg
theorem NoneTo.row {x l:ByteArray} {ws:List ByteArray} {c:Nat} (h:NoneTo x l ws c 5):NoneTo x l ws (c+1) 0:=fun c' k' hk' hd=>h c' k' hk' (by omega)
abbrev cells23 (a:Acct):Obj:=.cells #[.string a.code,.int .i64 a.cls,.bool a.cash,.bool a.both,.string a.fixed,.bool a.worn] 107
set_option maxRecDepth 100000 in
set_option maxHeartbeats 8000000 in
theorem rparse_any (v:Value) (ws:List ByteArray) (w:World) (h:StrsV w v ws) :
 Calls Tryz.prog 73 #[v] w fun e w'=>e=.returned (.tuple #[aggF (parseA ws).1,.int .i64 (parseA ws).2])∧Below w.heap.size w w':=by
 have HV:=Lib.hid h
 obtain ⟨p,c,rfl,hcap,hm,hc⟩:=h
 obtain ⟨n,hn⟩:∃ n,ws.length=n:=⟨_,rfl⟩
 rw [hn] at hcap hm HV ⊢
 unfold maxLen at hm
 have HB0:=Lib.hid ((Below.refl w.heap.size w).alloc (Nat.le_refl _) (.cells #[.string ⟨#[]⟩,.int .i64 0,.bool false,.bool false,.string ⟨#[]⟩,.bool false] 107))
 have HX0:=Lib.hid (BoxA.new w zeroA 107)
 by_cases h3:n < 3
 ·have hP:Hid (parseA ws=(zeroA,5)):=Lib.hid (parse_short (by rw [hn];exact h3))
  rw [hP.out]
  clear hn hc
  go_enter Tryz.func73,Tryz.ntmps73
  go_wp2
  refine bodyPost_ret (v:=.tuple #[aggF zeroA,.int .i64 5]) (by simp [results,Tryz.results73,go_sem,zeroA]) rfl ⟨rfl,HB0.out⟩
 ·by_cases h5:5 < n
  ·have hP:Hid (parseA ws=(zeroA,5)):=Lib.hid (parse_long (by rw [hn];exact h5))
   rw [hP.out]
   clear hn hc
   go_enter Tryz.func73,Tryz.ntmps73
   go_wp2
   refine bodyPost_ret (v:=.tuple #[aggF zeroA,.int .i64 5]) (by simp [results,Tryz.results73,go_sem,zeroA]) rfl ⟨rfl,HB0.out⟩
  ·obtain ⟨x,hx⟩:∃ x,ws[1]?=some x:=⟨_,List.getElem?_eq_getElem (by omega)⟩
   obtain ⟨l,hl⟩:∃ x,ws[n - 1]?=some x:=⟨_,List.getElem?_eq_getElem (by omega)⟩
   obtain ⟨b,o,rfl,k1⟩:=hc 1 x hx
   obtain ⟨b',o',e',k2⟩:=hc (n - 1) l hl
   cases e'
   obtain ⟨R,hR⟩:∃ R,parseA ws=R:=⟨_,rfl⟩
   rw [hR]
   have HR:=Lib.hid hR
   have HX:=Lib.hid hx
   have HL:Hid (ws[ws.length - 1]?=some l):=Lib.hid (by rw [hn];exact hl)
   have HV0:=Lib.hid (HV.out.keep HB0.out)
   have K1:=Lib.hid k1
   have j1:=cell_later HB0.out k1
   have j2:=cell_later HB0.out k2
   have hn1:(n:Int) - 1=((n - 1:Nat):Int):=by omega
   clear hx hl hc hn hR k1 k2
   go_enter Tryz.func73,Tryz.ntmps73
   go_wp2
   go_loopw [3,5] (fun s3 s5 wr=>∃ c:Nat,c≤3∧s5=.int .i64 (c:Int)∧Below w.heap.size w wr∧w.heap.size < wr.heap.size∧BoxA wr w.heap.size 107 zeroA∧s3=.int .i64 0∧Hid (NoneTo x l ws c 0)) (fun _ s5 _=>3 - (intOf s5).toNat)
   case atStart=>exact ⟨0,by omega,rfl,HB0.out,by simp,HX0.out,rfl,Lib.hid fun c' k' _ hd=>by omega⟩
   case round =>
    obtain ⟨q,hq,rfl,hnx,hsz,hbox,rfl,HNO⟩:=hrel
    clear j1 j2
    by_cases hq3:q < 3
    ·have hq3b:decide ((q:Int) < 3)=true:=decide_eq_true (by omega)
     go_wp2
     rename World=>wa
     have HNX:=Lib.hid hnx
     have HSZ:=Lib.hid hsz
     have HBX:=Lib.hid hbox
     clear hnx hsz hbox
     go_loopw [3,6] (fun s3 s6 wr=>∃ k:Nat,k≤5∧s6=.int .i64 (k:Int)∧Below w.heap.size w wr∧w.heap.size < wr.heap.size∧BoxA wr w.heap.size 107 zeroA∧s3=.int .i64 0∧Hid (NoneTo x l ws q k)) (fun _ s6 _=>5 - (intOf s6).toNat)
     case atStart=>exact ⟨0,by omega,rfl,HNX.out,HSZ.out,HBX.out,rfl,HNO⟩
     case round =>
      obtain ⟨k,hk,rfl,hnx,hsz,hbox,rfl,HNK⟩:=hrel
      by_cases hk5:k < 5
      ·have j1:=cell_later hnx K1.out
       have HNX2:=Lib.hid hnx
       have HBX2:=Lib.hid hbox
       have HVW:=Lib.hid (HV.out.keep hnx)
       rcases (by omega:k=0∨k=1∨k=2∨k=3∨k=4) with rfl | rfl | rfl | rfl | rfl
       ·clear hk hk5
        have HG:Hid (Good x l ws q 0 ↔ rightA ⟨x,(q:Int),false,false,⟨#[]⟩,false⟩=true∧wordsA ⟨x,(q:Int),false,false,⟨#[]⟩,false⟩=ws):=Lib.hid Iff.rfl
        have HRT:=Lib.hid (rright_any ⟨x,(q:Int),false,false,⟨#[]⟩,false⟩)
        have HWT:=Lib.hid (rwords_any ⟨x,(q:Int),false,false,⟨#[]⟩,false⟩)
        have HBA:=Lib.hid (hnx.alloc (Nat.le_of_lt hsz) (cells23 ⟨x,(q:Int),false,false,⟨#[]⟩,false⟩))
        have HBA':=Lib.hid ((Below.refl wr.heap.size wr).alloc (Nat.le_refl _) (cells23 ⟨x,(q:Int),false,false,⟨#[]⟩,false⟩))
        have HXA:=Lib.hid (BoxA.new wr ⟨x,(q:Int),false,false,⟨#[]⟩,false⟩ 107)
        have HBXA:=Lib.hid (hbox.keep HBA'.out hsz)
        have HVA:=Lib.hid (HVW.out.keep HBA'.out)
        cases hr:rightA ⟨x,(q:Int),false,false,⟨#[]⟩,false⟩ with
        | false =>
          have hng:Hid (¬ Good x l ws q 0):=Lib.hid (fun h=>by rw [HG.out,hr] at h;cases h.1)
          rw [hr] at HRT
          clear hr
          go_wp2_with fail
          refine (HRT.out _).mono ?_
          rintro e w2 ⟨rfl,hb2⟩
          have HF:=Lib.hid (HBA.out.trans (hb2.mono HBA.out.size))
          have HS2:Hid (w.heap.size < w2.heap.size):=Lib.hid (by have:=hb2.size;simp at this;omega)
          have HB2:=Lib.hid (HBXA.out.keep hb2 (by simp;omega))
          clear hb2
          go_wp2
          go_roundw
          case rel=>first | exact ⟨1,by omega,by first | rfl | go_num,HF.out,HS2.out,HB2.out,rfl,Lib.hid (HNK.out.next hng.out)⟩ | ((repeat apply Exists.intro);exact ⟨⟨1,by omega,by first | rfl | go_num,HF.out,HS2.out,HB2.out,rfl,Lib.hid (HNK.out.next hng.out)⟩,rfl⟩)
          case measure=>simp [intOf]
        | true =>
          rw [hr] at HRT
          have HRR:=Lib.hid hr
          clear hr
          go_wp2_with fail
          refine (HRT.out _).mono ?_
          rintro e w2 ⟨rfl,hb2⟩
          have HF:=Lib.hid (HBA.out.trans (hb2.mono HBA.out.size))
          have HS2:Hid (w.heap.size < w2.heap.size):=Lib.hid (by have:=hb2.size;simp at this;omega)
          have HB2:=Lib.hid (HBXA.out.keep hb2 (by simp;omega))
          have HX2:=Lib.hid (HXA.out.keep hb2 (by simp))
          have HSX:Hid (wr.heap.size < w2.heap.size):=Lib.hid (by have:=hb2.size;simp at this;omega)
          have HV2:=Lib.hid (HVA.out.keep hb2)
          clear hb2
          obtain ⟨c0,c1,c2,c3,c4,c5⟩:=HX2.out.facts
          simp only at c0 c1 c2 c3 c4 c5
          go_wp2_with fail
          clear c0 c1 c2 c3 c4 c5
          refine (HWT.out _).mono ?_
          rintro e w3 ⟨v3,rfl,hs3,hb3⟩
          have HS3:=Lib.hid hs3
          have HV3:=Lib.hid (HV2.out.keep hb3)
          have HF3:=Lib.hid (HF.out.trans (hb3.mono HF.out.size))
          have HB3:=Lib.hid (HB2.out.keep hb3 HS2.out)
          have HX3:=Lib.hid (HX2.out.keep hb3 HSX.out)
          have HS3':Hid (w.heap.size < w3.heap.size):=Lib.hid (Nat.lt_of_lt_of_le HS2.out hb3.size)
          clear hs3 hb3
          go_wp2_with fail
          refine (sameWords_any _ _ _ ws _ HS3.out HV3.out).mono ?_
          rintro e w4 ⟨rfl,qq,hq4⟩
          have HF4:Hid (Below w.heap.size w w4):=Lib.hid (by rw [hq4];exact below_drewN HF3.out qq)
          have HB4:Hid (BoxA w4 w.heap.size 107 zeroA):=Lib.hid (by rw [hq4];exact HB3.out)
          have HX4:Hid (BoxA w4 wr.heap.size 107 ⟨x,(q:Int),false,false,⟨#[]⟩,false⟩):=Lib.hid (by rw [hq4];exact HX3.out)
          have HS4:Hid (w.heap.size < w4.heap.size):=Lib.hid (by rw [hq4];exact HS3'.out)
          clear hq4
          by_cases hw:wordsA ⟨x,(q:Int),false,false,⟨#[]⟩,false⟩=ws
          ·have hsm:Hid (sameW (wordsA ⟨x,(q:Int),false,false,⟨#[]⟩,false⟩) ws=true):=Lib.hid (decide_eq_true hw)
           have hres:Hid (R=(⟨x,(q:Int),false,false,⟨#[]⟩,false⟩,0)):=Lib.hid (by rw [←HR.out];exact parse_of HRR.out hw)
           rw [hsm.out]
           clear hw
           obtain ⟨c0,c1,c2,c3,c4,c5⟩:=HX4.out.facts
           simp only at c0 c1 c2 c3 c4 c5
           go_wp2_with (refine wpList_store_acct rfl 107 (.tmp 2) (.tmp 55) rfl w.heap.size zeroA ⟨x,(q:Int),false,false,⟨#[]⟩,false⟩ 107 rfl rfl HB4.out (by kernel_rfl) ?_;intro w8 hb8 hg8)
           have HFF:=Lib.hid (HF4.out.grown hg8 HF4.out.size (fun j hj=>by cases hj;exact Nat.le_refl _))
           obtain ⟨t0,t1,t2,t3,t4,t5⟩:=hb8.facts
           simp only at t0 t1 t2 t3 t4 t5
           clear hb8 hg8
           refine bodyPost_ret (v:=.tuple #[aggF ⟨x,(q:Int),false,false,⟨#[]⟩,false⟩,.int .i64 0]) (by simp [results,Tryz.results73,go_sem,t0,t1,t2,t3,t4,t5]) rfl ⟨by rw [hres.out],HFF.out⟩
          ·have hsm:Hid (sameW (wordsA ⟨x,(q:Int),false,false,⟨#[]⟩,false⟩) ws=false):=Lib.hid (decide_eq_false hw)
           have hng:Hid (¬ Good x l ws q 0):=Lib.hid (fun h=>by rw [HG.out] at h;exact hw h.2)
           rw [hsm.out]
           clear hw
           go_wp2
           go_roundw
           case rel=>first | exact ⟨1,by omega,by first | rfl | go_num,HF4.out,HS4.out,HB4.out,rfl,Lib.hid (HNK.out.next hng.out)⟩ | ((repeat apply Exists.intro);exact ⟨⟨1,by omega,by first | rfl | go_num,HF4.out,HS4.out,HB4.out,rfl,Lib.hid (HNK.out.next hng.out)⟩,rfl⟩)
           case measure=>simp [intOf]
       ·clear hk hk5
        have HG:Hid (Good x l ws q 1 ↔ rightA ⟨x,(q:Int),true,false,⟨#[]⟩,false⟩=true∧wordsA ⟨x,(q:Int),true,false,⟨#[]⟩,false⟩=ws):=Lib.hid Iff.rfl
        have HRT:=Lib.hid (rright_any ⟨x,(q:Int),true,false,⟨#[]⟩,false⟩)
        have HWT:=Lib.hid (rwords_any ⟨x,(q:Int),true,false,⟨#[]⟩,false⟩)
        have HBA:=Lib.hid (hnx.alloc (Nat.le_of_lt hsz) (cells23 ⟨x,(q:Int),true,false,⟨#[]⟩,false⟩))
        have HBA':=Lib.hid ((Below.refl wr.heap.size wr).alloc (Nat.le_refl _) (cells23 ⟨x,(q:Int),true,false,⟨#[]⟩,false⟩))
        have HXA:=Lib.hid (BoxA.new wr ⟨x,(q:Int),true,false,⟨#[]⟩,false⟩ 107)
        have HBXA:=Lib.hid (hbox.keep HBA'.out hsz)
        have HVA:=Lib.hid (HVW.out.keep HBA'.out)
        cases hr:rightA ⟨x,(q:Int),true,false,⟨#[]⟩,false⟩ with
        | false =>
          have hng:Hid (¬ Good x l ws q 1):=Lib.hid (fun h=>by rw [HG.out,hr] at h;cases h.1)
          rw [hr] at HRT
          clear hr
          go_wp2_with fail
          refine (HRT.out _).mono ?_
          rintro e w2 ⟨rfl,hb2⟩
          have HF:=Lib.hid (HBA.out.trans (hb2.mono HBA.out.size))
          have HS2:Hid (w.heap.size < w2.heap.size):=Lib.hid (by have:=hb2.size;simp at this;omega)
          have HB2:=Lib.hid (HBXA.out.keep hb2 (by simp;omega))
          clear hb2
          go_wp2
          go_roundw
          case rel=>first | exact ⟨2,by omega,by first | rfl | go_num,HF.out,HS2.out,HB2.out,rfl,Lib.hid (HNK.out.next hng.out)⟩ | ((repeat apply Exists.intro);exact ⟨⟨2,by omega,by first | rfl | go_num,HF.out,HS2.out,HB2.out,rfl,Lib.hid (HNK.out.next hng.out)⟩,rfl⟩)
          case measure=>simp [intOf]
        | true =>
          rw [hr] at HRT
          have HRR:=Lib.hid hr
          clear hr
          go_wp2_with fail
          refine (HRT.out _).mono ?_
          rintro e w2 ⟨rfl,hb2⟩
          have HF:=Lib.hid (HBA.out.trans (hb2.mono HBA.out.size))
          have HS2:Hid (w.heap.size < w2.heap.size):=Lib.hid (by have:=hb2.size;simp at this;omega)
          have HB2:=Lib.hid (HBXA.out.keep hb2 (by simp;omega))
          have HX2:=Lib.hid (HXA.out.keep hb2 (by simp))
          have HSX:Hid (wr.heap.size < w2.heap.size):=Lib.hid (by have:=hb2.size;simp at this;omega)
          have HV2:=Lib.hid (HVA.out.keep hb2)
          clear hb2
          obtain ⟨c0,c1,c2,c3,c4,c5⟩:=HX2.out.facts
          simp only at c0 c1 c2 c3 c4 c5
          go_wp2_with fail
          clear c0 c1 c2 c3 c4 c5
          refine (HWT.out _).mono ?_
          rintro e w3 ⟨v3,rfl,hs3,hb3⟩
          have HS3:=Lib.hid hs3
          have HV3:=Lib.hid (HV2.out.keep hb3)
          have HF3:=Lib.hid (HF.out.trans (hb3.mono HF.out.size))
          have HB3:=Lib.hid (HB2.out.keep hb3 HS2.out)
          have HX3:=Lib.hid (HX2.out.keep hb3 HSX.out)
          have HS3':Hid (w.heap.size < w3.heap.size):=Lib.hid (Nat.lt_of_lt_of_le HS2.out hb3.size)
          clear hs3 hb3
          go_wp2_with fail
          refine (sameWords_any _ _ _ ws _ HS3.out HV3.out).mono ?_
          rintro e w4 ⟨rfl,qq,hq4⟩
          have HF4:Hid (Below w.heap.size w w4):=Lib.hid (by rw [hq4];exact below_drewN HF3.out qq)
          have HB4:Hid (BoxA w4 w.heap.size 107 zeroA):=Lib.hid (by rw [hq4];exact HB3.out)
          have HX4:Hid (BoxA w4 wr.heap.size 107 ⟨x,(q:Int),true,false,⟨#[]⟩,false⟩):=Lib.hid (by rw [hq4];exact HX3.out)
          have HS4:Hid (w.heap.size < w4.heap.size):=Lib.hid (by rw [hq4];exact HS3'.out)
          clear hq4
          by_cases hw:wordsA ⟨x,(q:Int),true,false,⟨#[]⟩,false⟩=ws
          ·have hsm:Hid (sameW (wordsA ⟨x,(q:Int),true,false,⟨#[]⟩,false⟩) ws=true):=Lib.hid (decide_eq_true hw)
           have hres:Hid (R=(⟨x,(q:Int),true,false,⟨#[]⟩,false⟩,0)):=Lib.hid (by rw [←HR.out];exact parse_of HRR.out hw)
           rw [hsm.out]
           clear hw
           obtain ⟨c0,c1,c2,c3,c4,c5⟩:=HX4.out.facts
           simp only at c0 c1 c2 c3 c4 c5
           go_wp2_with (refine wpList_store_acct rfl 107 (.tmp 2) (.tmp 55) rfl w.heap.size zeroA ⟨x,(q:Int),true,false,⟨#[]⟩,false⟩ 107 rfl rfl HB4.out (by kernel_rfl) ?_;intro w8 hb8 hg8)
           have HFF:=Lib.hid (HF4.out.grown hg8 HF4.out.size (fun j hj=>by cases hj;exact Nat.le_refl _))
           obtain ⟨t0,t1,t2,t3,t4,t5⟩:=hb8.facts
           simp only at t0 t1 t2 t3 t4 t5
           clear hb8 hg8
           refine bodyPost_ret (v:=.tuple #[aggF ⟨x,(q:Int),true,false,⟨#[]⟩,false⟩,.int .i64 0]) (by simp [results,Tryz.results73,go_sem,t0,t1,t2,t3,t4,t5]) rfl ⟨by rw [hres.out],HFF.out⟩
          ·have hsm:Hid (sameW (wordsA ⟨x,(q:Int),true,false,⟨#[]⟩,false⟩) ws=false):=Lib.hid (decide_eq_false hw)
           have hng:Hid (¬ Good x l ws q 1):=Lib.hid (fun h=>by rw [HG.out] at h;exact hw h.2)
           rw [hsm.out]
           clear hw
           go_wp2
           go_roundw
           case rel=>first | exact ⟨2,by omega,by first | rfl | go_num,HF4.out,HS4.out,HB4.out,rfl,Lib.hid (HNK.out.next hng.out)⟩ | ((repeat apply Exists.intro);exact ⟨⟨2,by omega,by first | rfl | go_num,HF4.out,HS4.out,HB4.out,rfl,Lib.hid (HNK.out.next hng.out)⟩,rfl⟩)
           case measure=>simp [intOf]
       ·clear hk hk5
        have HG:Hid (Good x l ws q 2 ↔ rightA ⟨x,(q:Int),false,true,⟨#[]⟩,false⟩=true∧wordsA ⟨x,(q:Int),false,true,⟨#[]⟩,false⟩=ws):=Lib.hid Iff.rfl
        have HRT:=Lib.hid (rright_any ⟨x,(q:Int),false,true,⟨#[]⟩,false⟩)
        have HWT:=Lib.hid (rwords_any ⟨x,(q:Int),false,true,⟨#[]⟩,false⟩)
        have HBA:=Lib.hid (hnx.alloc (Nat.le_of_lt hsz) (cells23 ⟨x,(q:Int),false,true,⟨#[]⟩,false⟩))
        have HBA':=Lib.hid ((Below.refl wr.heap.size wr).alloc (Nat.le_refl _) (cells23 ⟨x,(q:Int),false,true,⟨#[]⟩,false⟩))
        have HXA:=Lib.hid (BoxA.new wr ⟨x,(q:Int),false,true,⟨#[]⟩,false⟩ 107)
        have HBXA:=Lib.hid (hbox.keep HBA'.out hsz)
        have HVA:=Lib.hid (HVW.out.keep HBA'.out)
        cases hr:rightA ⟨x,(q:Int),false,true,⟨#[]⟩,false⟩ with
        | false =>
          have hng:Hid (¬ Good x l ws q 2):=Lib.hid (fun h=>by rw [HG.out,hr] at h;cases h.1)
          rw [hr] at HRT
          clear hr
          go_wp2_with fail
          refine (HRT.out _).mono ?_
          rintro e w2 ⟨rfl,hb2⟩
          have HF:=Lib.hid (HBA.out.trans (hb2.mono HBA.out.size))
          have HS2:Hid (w.heap.size < w2.heap.size):=Lib.hid (by have:=hb2.size;simp at this;omega)
          have HB2:=Lib.hid (HBXA.out.keep hb2 (by simp;omega))
          clear hb2
          go_wp2
          go_roundw
          case rel=>first | exact ⟨3,by omega,by first | rfl | go_num,HF.out,HS2.out,HB2.out,rfl,Lib.hid (HNK.out.next hng.out)⟩ | ((repeat apply Exists.intro);exact ⟨⟨3,by omega,by first | rfl | go_num,HF.out,HS2.out,HB2.out,rfl,Lib.hid (HNK.out.next hng.out)⟩,rfl⟩)
          case measure=>simp [intOf]
        | true =>
          rw [hr] at HRT
          have HRR:=Lib.hid hr
          clear hr
          go_wp2_with fail
          refine (HRT.out _).mono ?_
          rintro e w2 ⟨rfl,hb2⟩
          have HF:=Lib.hid (HBA.out.trans (hb2.mono HBA.out.size))
          have HS2:Hid (w.heap.size < w2.heap.size):=Lib.hid (by have:=hb2.size;simp at this;omega)
          have HB2:=Lib.hid (HBXA.out.keep hb2 (by simp;omega))
          have HX2:=Lib.hid (HXA.out.keep hb2 (by simp))
          have HSX:Hid (wr.heap.size < w2.heap.size):=Lib.hid (by have:=hb2.size;simp at this;omega)
          have HV2:=Lib.hid (HVA.out.keep hb2)
          clear hb2
          obtain ⟨c0,c1,c2,c3,c4,c5⟩:=HX2.out.facts
          simp only at c0 c1 c2 c3 c4 c5
          go_wp2_with fail
          clear c0 c1 c2 c3 c4 c5
          refine (HWT.out _).mono ?_
          rintro e w3 ⟨v3,rfl,hs3,hb3⟩
          have HS3:=Lib.hid hs3
          have HV3:=Lib.hid (HV2.out.keep hb3)
          have HF3:=Lib.hid (HF.out.trans (hb3.mono HF.out.size))
          have HB3:=Lib.hid (HB2.out.keep hb3 HS2.out)
          have HX3:=Lib.hid (HX2.out.keep hb3 HSX.out)
          have HS3':Hid (w.heap.size < w3.heap.size):=Lib.hid (Nat.lt_of_lt_of_le HS2.out hb3.size)
          clear hs3 hb3
          go_wp2_with fail
          refine (sameWords_any _ _ _ ws _ HS3.out HV3.out).mono ?_
          rintro e w4 ⟨rfl,qq,hq4⟩
          have HF4:Hid (Below w.heap.size w w4):=Lib.hid (by rw [hq4];exact below_drewN HF3.out qq)
          have HB4:Hid (BoxA w4 w.heap.size 107 zeroA):=Lib.hid (by rw [hq4];exact HB3.out)
          have HX4:Hid (BoxA w4 wr.heap.size 107 ⟨x,(q:Int),false,true,⟨#[]⟩,false⟩):=Lib.hid (by rw [hq4];exact HX3.out)
          have HS4:Hid (w.heap.size < w4.heap.size):=Lib.hid (by rw [hq4];exact HS3'.out)
          clear hq4
          by_cases hw:wordsA ⟨x,(q:Int),false,true,⟨#[]⟩,false⟩=ws
          ·have hsm:Hid (sameW (wordsA ⟨x,(q:Int),false,true,⟨#[]⟩,false⟩) ws=true):=Lib.hid (decide_eq_true hw)
           have hres:Hid (R=(⟨x,(q:Int),false,true,⟨#[]⟩,false⟩,0)):=Lib.hid (by rw [←HR.out];exact parse_of HRR.out hw)
           rw [hsm.out]
           clear hw
           obtain ⟨c0,c1,c2,c3,c4,c5⟩:=HX4.out.facts
           simp only at c0 c1 c2 c3 c4 c5
           go_wp2_with (refine wpList_store_acct rfl 107 (.tmp 2) (.tmp 55) rfl w.heap.size zeroA ⟨x,(q:Int),false,true,⟨#[]⟩,false⟩ 107 rfl rfl HB4.out (by kernel_rfl) ?_;intro w8 hb8 hg8)
           have HFF:=Lib.hid (HF4.out.grown hg8 HF4.out.size (fun j hj=>by cases hj;exact Nat.le_refl _))
           obtain ⟨t0,t1,t2,t3,t4,t5⟩:=hb8.facts
           simp only at t0 t1 t2 t3 t4 t5
           clear hb8 hg8
           refine bodyPost_ret (v:=.tuple #[aggF ⟨x,(q:Int),false,true,⟨#[]⟩,false⟩,.int .i64 0]) (by simp [results,Tryz.results73,go_sem,t0,t1,t2,t3,t4,t5]) rfl ⟨by rw [hres.out],HFF.out⟩
          ·have hsm:Hid (sameW (wordsA ⟨x,(q:Int),false,true,⟨#[]⟩,false⟩) ws=false):=Lib.hid (decide_eq_false hw)
           have hng:Hid (¬ Good x l ws q 2):=Lib.hid (fun h=>by rw [HG.out] at h;exact hw h.2)
           rw [hsm.out]
           clear hw
           go_wp2
           go_roundw
           case rel=>first | exact ⟨3,by omega,by first | rfl | go_num,HF4.out,HS4.out,HB4.out,rfl,Lib.hid (HNK.out.next hng.out)⟩ | ((repeat apply Exists.intro);exact ⟨⟨3,by omega,by first | rfl | go_num,HF4.out,HS4.out,HB4.out,rfl,Lib.hid (HNK.out.next hng.out)⟩,rfl⟩)
           case measure=>simp [intOf]
       ·clear hk hk5
        have HG:Hid (Good x l ws q 3 ↔ rightA ⟨x,(q:Int),false,false,l,false⟩=true∧wordsA ⟨x,(q:Int),false,false,l,false⟩=ws):=Lib.hid Iff.rfl
        have HRT:=Lib.hid (rright_any ⟨x,(q:Int),false,false,l,false⟩)
        have HWT:=Lib.hid (rwords_any ⟨x,(q:Int),false,false,l,false⟩)
        have HBA:=Lib.hid (hnx.alloc (Nat.le_of_lt hsz) (cells23 ⟨x,(q:Int),false,false,l,false⟩))
        have HBA':=Lib.hid ((Below.refl wr.heap.size wr).alloc (Nat.le_refl _) (cells23 ⟨x,(q:Int),false,false,l,false⟩))
        have HXA:=Lib.hid (BoxA.new wr ⟨x,(q:Int),false,false,l,false⟩ 107)
        have HBXA:=Lib.hid (hbox.keep HBA'.out hsz)
        have HVA:=Lib.hid (HVW.out.keep HBA'.out)
        cases hr:rightA ⟨x,(q:Int),false,false,l,false⟩ with
        | false =>
          have hng:Hid (¬ Good x l ws q 3):=Lib.hid (fun h=>by rw [HG.out,hr] at h;cases h.1)
          rw [hr] at HRT
          clear hr
          go_wp2_with fail
          refine (HRT.out _).mono ?_
          rintro e w2 ⟨rfl,hb2⟩
          have HF:=Lib.hid (HBA.out.trans (hb2.mono HBA.out.size))
          have HS2:Hid (w.heap.size < w2.heap.size):=Lib.hid (by have:=hb2.size;simp at this;omega)
          have HB2:=Lib.hid (HBXA.out.keep hb2 (by simp;omega))
          clear hb2
          go_wp2
          go_roundw
          case rel=>first | exact ⟨4,by omega,by first | rfl | go_num,HF.out,HS2.out,HB2.out,rfl,Lib.hid (HNK.out.next hng.out)⟩ | ((repeat apply Exists.intro);exact ⟨⟨4,by omega,by first | rfl | go_num,HF.out,HS2.out,HB2.out,rfl,Lib.hid (HNK.out.next hng.out)⟩,rfl⟩)
          case measure=>simp [intOf]
        | true =>
          rw [hr] at HRT
          have HRR:=Lib.hid hr
          clear hr
          go_wp2_with fail
          refine (HRT.out _).mono ?_
          rintro e w2 ⟨rfl,hb2⟩
          have HF:=Lib.hid (HBA.out.trans (hb2.mono HBA.out.size))
          have HS2:Hid (w.heap.size < w2.heap.size):=Lib.hid (by have:=hb2.size;simp at this;omega)
          have HB2:=Lib.hid (HBXA.out.keep hb2 (by simp;omega))
          have HX2:=Lib.hid (HXA.out.keep hb2 (by simp))
          have HSX:Hid (wr.heap.size < w2.heap.size):=Lib.hid (by have:=hb2.size;simp at this;omega)
          have HV2:=Lib.hid (HVA.out.keep hb2)
          clear hb2
          obtain ⟨c0,c1,c2,c3,c4,c5⟩:=HX2.out.facts
          simp only at c0 c1 c2 c3 c4 c5
          go_wp2_with fail
          clear c0 c1 c2 c3 c4 c5
          refine (HWT.out _).mono ?_
          rintro e w3 ⟨v3,rfl,hs3,hb3⟩
          have HS3:=Lib.hid hs3
          have HV3:=Lib.hid (HV2.out.keep hb3)
          have HF3:=Lib.hid (HF.out.trans (hb3.mono HF.out.size))
          have HB3:=Lib.hid (HB2.out.keep hb3 HS2.out)
          have HX3:=Lib.hid (HX2.out.keep hb3 HSX.out)
          have HS3':Hid (w.heap.size < w3.heap.size):=Lib.hid (Nat.lt_of_lt_of_le HS2.out hb3.size)
          clear hs3 hb3
          go_wp2_with fail
          refine (sameWords_any _ _ _ ws _ HS3.out HV3.out).mono ?_
          rintro e w4 ⟨rfl,qq,hq4⟩
          have HF4:Hid (Below w.heap.size w w4):=Lib.hid (by rw [hq4];exact below_drewN HF3.out qq)
          have HB4:Hid (BoxA w4 w.heap.size 107 zeroA):=Lib.hid (by rw [hq4];exact HB3.out)
          have HX4:Hid (BoxA w4 wr.heap.size 107 ⟨x,(q:Int),false,false,l,false⟩):=Lib.hid (by rw [hq4];exact HX3.out)
          have HS4:Hid (w.heap.size < w4.heap.size):=Lib.hid (by rw [hq4];exact HS3'.out)
          clear hq4
          by_cases hw:wordsA ⟨x,(q:Int),false,false,l,false⟩=ws
          ·have hsm:Hid (sameW (wordsA ⟨x,(q:Int),false,false,l,false⟩) ws=true):=Lib.hid (decide_eq_true hw)
           have hres:Hid (R=(⟨x,(q:Int),false,false,l,false⟩,0)):=Lib.hid (by rw [←HR.out];exact parse_of HRR.out hw)
           rw [hsm.out]
           clear hw
           obtain ⟨c0,c1,c2,c3,c4,c5⟩:=HX4.out.facts
           simp only at c0 c1 c2 c3 c4 c5
           go_wp2_with (refine wpList_store_acct rfl 107 (.tmp 2) (.tmp 55) rfl w.heap.size zeroA ⟨x,(q:Int),false,false,l,false⟩ 107 rfl rfl HB4.out (by kernel_rfl) ?_;intro w8 hb8 hg8)
           have HFF:=Lib.hid (HF4.out.grown hg8 HF4.out.size (fun j hj=>by cases hj;exact Nat.le_refl _))
           obtain ⟨t0,t1,t2,t3,t4,t5⟩:=hb8.facts
           simp only at t0 t1 t2 t3 t4 t5
           clear hb8 hg8
           refine bodyPost_ret (v:=.tuple #[aggF ⟨x,(q:Int),false,false,l,false⟩,.int .i64 0]) (by simp [results,Tryz.results73,go_sem,t0,t1,t2,t3,t4,t5]) rfl ⟨by rw [hres.out],HFF.out⟩
          ·have hsm:Hid (sameW (wordsA ⟨x,(q:Int),false,false,l,false⟩) ws=false):=Lib.hid (decide_eq_false hw)
           have hng:Hid (¬ Good x l ws q 3):=Lib.hid (fun h=>by rw [HG.out] at h;exact hw h.2)
           rw [hsm.out]
           clear hw
           go_wp2
           go_roundw
           case rel=>first | exact ⟨4,by omega,by first | rfl | go_num,HF4.out,HS4.out,HB4.out,rfl,Lib.hid (HNK.out.next hng.out)⟩ | ((repeat apply Exists.intro);exact ⟨⟨4,by omega,by first | rfl | go_num,HF4.out,HS4.out,HB4.out,rfl,Lib.hid (HNK.out.next hng.out)⟩,rfl⟩)
           case measure=>simp [intOf]
       ·clear hk hk5
        have HG:Hid (Good x l ws q 4 ↔ rightA ⟨x,(q:Int),false,false,l,true⟩=true∧wordsA ⟨x,(q:Int),false,false,l,true⟩=ws):=Lib.hid Iff.rfl
        have HRT:=Lib.hid (rright_any ⟨x,(q:Int),false,false,l,true⟩)
        have HWT:=Lib.hid (rwords_any ⟨x,(q:Int),false,false,l,true⟩)
        have HBA:=Lib.hid (hnx.alloc (Nat.le_of_lt hsz) (cells23 ⟨x,(q:Int),false,false,l,true⟩))
        have HBA':=Lib.hid ((Below.refl wr.heap.size wr).alloc (Nat.le_refl _) (cells23 ⟨x,(q:Int),false,false,l,true⟩))
        have HXA:=Lib.hid (BoxA.new wr ⟨x,(q:Int),false,false,l,true⟩ 107)
        have HBXA:=Lib.hid (hbox.keep HBA'.out hsz)
        have HVA:=Lib.hid (HVW.out.keep HBA'.out)
        cases hr:rightA ⟨x,(q:Int),false,false,l,true⟩ with
        | false =>
          have hng:Hid (¬ Good x l ws q 4):=Lib.hid (fun h=>by rw [HG.out,hr] at h;cases h.1)
          rw [hr] at HRT
          clear hr
          go_wp2_with fail
          refine (HRT.out _).mono ?_
          rintro e w2 ⟨rfl,hb2⟩
          have HF:=Lib.hid (HBA.out.trans (hb2.mono HBA.out.size))
          have HS2:Hid (w.heap.size < w2.heap.size):=Lib.hid (by have:=hb2.size;simp at this;omega)
          have HB2:=Lib.hid (HBXA.out.keep hb2 (by simp;omega))
          clear hb2
          go_wp2
          go_roundw
          case rel=>first | exact ⟨5,by omega,by first | rfl | go_num,HF.out,HS2.out,HB2.out,rfl,Lib.hid (HNK.out.next hng.out)⟩ | ((repeat apply Exists.intro);exact ⟨⟨5,by omega,by first | rfl | go_num,HF.out,HS2.out,HB2.out,rfl,Lib.hid (HNK.out.next hng.out)⟩,rfl⟩)
          case measure=>simp [intOf]
        | true =>
          rw [hr] at HRT
          have HRR:=Lib.hid hr
          clear hr
          go_wp2_with fail
          refine (HRT.out _).mono ?_
          rintro e w2 ⟨rfl,hb2⟩
          have HF:=Lib.hid (HBA.out.trans (hb2.mono HBA.out.size))
          have HS2:Hid (w.heap.size < w2.heap.size):=Lib.hid (by have:=hb2.size;simp at this;omega)
          have HB2:=Lib.hid (HBXA.out.keep hb2 (by simp;omega))
          have HX2:=Lib.hid (HXA.out.keep hb2 (by simp))
          have HSX:Hid (wr.heap.size < w2.heap.size):=Lib.hid (by have:=hb2.size;simp at this;omega)
          have HV2:=Lib.hid (HVA.out.keep hb2)
          clear hb2
          obtain ⟨c0,c1,c2,c3,c4,c5⟩:=HX2.out.facts
          simp only at c0 c1 c2 c3 c4 c5
          go_wp2_with fail
          clear c0 c1 c2 c3 c4 c5
          refine (HWT.out _).mono ?_
          rintro e w3 ⟨v3,rfl,hs3,hb3⟩
          have HS3:=Lib.hid hs3
          have HV3:=Lib.hid (HV2.out.keep hb3)
          have HF3:=Lib.hid (HF.out.trans (hb3.mono HF.out.size))
          have HB3:=Lib.hid (HB2.out.keep hb3 HS2.out)
          have HX3:=Lib.hid (HX2.out.keep hb3 HSX.out)
          have HS3':Hid (w.heap.size < w3.heap.size):=Lib.hid (Nat.lt_of_lt_of_le HS2.out hb3.size)
          clear hs3 hb3
          go_wp2_with fail
          refine (sameWords_any _ _ _ ws _ HS3.out HV3.out).mono ?_
          rintro e w4 ⟨rfl,qq,hq4⟩
          have HF4:Hid (Below w.heap.size w w4):=Lib.hid (by rw [hq4];exact below_drewN HF3.out qq)
          have HB4:Hid (BoxA w4 w.heap.size 107 zeroA):=Lib.hid (by rw [hq4];exact HB3.out)
          have HX4:Hid (BoxA w4 wr.heap.size 107 ⟨x,(q:Int),false,false,l,true⟩):=Lib.hid (by rw [hq4];exact HX3.out)
          have HS4:Hid (w.heap.size < w4.heap.size):=Lib.hid (by rw [hq4];exact HS3'.out)
          clear hq4
          by_cases hw:wordsA ⟨x,(q:Int),false,false,l,true⟩=ws
          ·have hsm:Hid (sameW (wordsA ⟨x,(q:Int),false,false,l,true⟩) ws=true):=Lib.hid (decide_eq_true hw)
           have hres:Hid (R=(⟨x,(q:Int),false,false,l,true⟩,0)):=Lib.hid (by rw [←HR.out];exact parse_of HRR.out hw)
           rw [hsm.out]
           clear hw
           obtain ⟨c0,c1,c2,c3,c4,c5⟩:=HX4.out.facts
           simp only at c0 c1 c2 c3 c4 c5
           go_wp2_with (refine wpList_store_acct rfl 107 (.tmp 2) (.tmp 55) rfl w.heap.size zeroA ⟨x,(q:Int),false,false,l,true⟩ 107 rfl rfl HB4.out (by kernel_rfl) ?_;intro w8 hb8 hg8)
           have HFF:=Lib.hid (HF4.out.grown hg8 HF4.out.size (fun j hj=>by cases hj;exact Nat.le_refl _))
           obtain ⟨t0,t1,t2,t3,t4,t5⟩:=hb8.facts
           simp only at t0 t1 t2 t3 t4 t5
           clear hb8 hg8
           refine bodyPost_ret (v:=.tuple #[aggF ⟨x,(q:Int),false,false,l,true⟩,.int .i64 0]) (by simp [results,Tryz.results73,go_sem,t0,t1,t2,t3,t4,t5]) rfl ⟨by rw [hres.out],HFF.out⟩
          ·have hsm:Hid (sameW (wordsA ⟨x,(q:Int),false,false,l,true⟩) ws=false):=Lib.hid (decide_eq_false hw)
           have hng:Hid (¬ Good x l ws q 4):=Lib.hid (fun h=>by rw [HG.out] at h;exact hw h.2)
           rw [hsm.out]
           clear hw
           go_wp2
           go_roundw
           case rel=>first | exact ⟨5,by omega,by first | rfl | go_num,HF4.out,HS4.out,HB4.out,rfl,Lib.hid (HNK.out.next hng.out)⟩ | ((repeat apply Exists.intro);exact ⟨⟨5,by omega,by first | rfl | go_num,HF4.out,HS4.out,HB4.out,rfl,Lib.hid (HNK.out.next hng.out)⟩,rfl⟩)
           case measure=>simp [intOf]
      ·obtain rfl:k=5:=by omega
       have HNX5:=Lib.hid hnx
       have HBX5:=Lib.hid hbox
       have HSZ5:=Lib.hid hsz
       clear hnx hbox hsz
       go_wp2
       go_roundw
       case rel=>exact ⟨q+1,by omega,by first | rfl | go_num,HNX5.out,HSZ5.out,HBX5.out,rfl,Lib.hid HNK.out.row⟩
       case measure=>simp [intOf];omega
    ·obtain rfl:q=3:=by omega
     have hres:Hid (R=(zeroA,5)):=Lib.hid (by
      rw [←HR.out]
      exact parse_none HX.out HL.out fun c' k' hc' hk'=>HNO.out c' k' hk' (.inl hc'))
     have HNX:=Lib.hid hnx
     go_wp2_with (refine wpList_store_acct rfl 107 (.tmp 2) (.tmp 56) rfl w.heap.size zeroA zeroA 107 rfl rfl hbox (by kernel_rfl) ?_;intro w8 hb8 hg8)
     have HF:=Lib.hid (HNX.out.grown hg8 HNX.out.size (fun j hj=>by cases hj;exact Nat.le_refl _))
     obtain ⟨t0,t1,t2,t3,t4,t5⟩:=hb8.facts
     clear hb8 hg8
     refine bodyPost_ret (v:=.tuple #[aggF zeroA,.int .i64 5]) (by simp [results,Tryz.results73,go_sem,t0,t1,t2,t3,t4,t5]) rfl ⟨by rw [hres.out],HF.out⟩
end Go.Proofs.YtdegffffcbhjbaaGreatDoor
end
section
namespace Go.Proofs.YtdegffffcbhjbaaGreatDoor.Un
open Go.RowKit
def kindO' (o:Option Fl.Flow):Int:=(o.getD Fl.zeroF).kind
theorem findK_first {α:Type} {key:α→ByteArray} {L:List α} {c:ByteArray} {i:Nat} {x:α} (hb:∀ (j:Nat) (y:α),j < i→L[j]?=some y→key y≠c) (hx:L[i]?=some x) (h:key x=c):findK key L c=some x:=by
 induction L generalizing i with
 | nil=>simp at hx
 | cons a L ih =>
   cases i with
   | zero =>
     simp at hx;subst hx
     simp only [findK];rw [if_pos h]
   | succ i =>
     simp only [findK]
     rw [if_neg (hb 0 a (Nat.succ_pos _) rfl)]
     refine ih (i:=i) (fun j y hj hy=>hb (j+1) y (by omega) (by simpa using hy)) (by simpa using hx)
theorem findK_nowhere {α:Type} {key:α→ByteArray} {L:List α} {c:ByteArray} (h:∀ (j:Nat) (y:α),L[j]?=some y→key y≠c):findK key L c=none :=
 findK_none fun y hy e=>by
  obtain ⟨j,hj,rfl⟩:=List.getElem_of_mem hy
  exact h j _ (List.getElem?_eq_getElem hj) e
set_option maxRecDepth 100000 in
set_option maxHeartbeats 2000000 in
theorem rkind_any (v:Value) (L:List Fl.Flow) (code:ByteArray) (w:World) (h:Fl.FlowsV w v L) :
 Calls Tryz.prog 40 #[v,.string code] w fun e w'=>e=.returned (.tuple #[.int .i64 (kindO' (Fl.findF L code)),.bool (Fl.findF L code).isSome])∧Below w.heap.size w w':=by
 obtain ⟨a,c,rfl,hcap,hm,_,hc⟩:=h
 obtain ⟨n,hn⟩:∃ n,L.length=n:=⟨_,rfl⟩
 obtain ⟨r,hr⟩:∃ r,Fl.findF L code=r:=⟨_,rfl⟩
 rw [hn] at hcap ⊢
 rw [hr]
 have HC:=Lib.hid hc
 have HN:=Lib.hid hn
 have HR:=Lib.hid hr
 unfold maxLen at hm
 clear hc hn hr
 obtain ⟨R,hR⟩:∃ R,kindO' r=R:=⟨_,rfl⟩
 obtain ⟨S,hS⟩:∃ S,r.isSome=S:=⟨_,rfl⟩
 rw [hR,hS]
 have HRV:=Lib.hid hR
 have HSV:=Lib.hid hS
 clear hR hS
 go_enter Tryz.func40,Tryz.ntmps40
 go_wp2
 go_loopw [6] (fun s6 wr=>∃ i:Nat,i≤n∧s6=.int .i64 (i:Int)∧Below w.heap.size w wr∧Hid (∀ (j:Nat) (y:Fl.Flow),j < i→L[j]?=some y→y.code≠code)) (fun s6 _=>n - (intOf s6).toNat)
 case atStart=>exact ⟨0,Nat.zero_le _,rfl,Below.refl _ _,Lib.hid fun j y hj=>absurd hj (Nat.not_lt_zero _)⟩
 case round =>
  obtain ⟨i,hi,rfl,hnx,HNO⟩:=hrel
  by_cases hlt:i < n
  ·obtain ⟨x,hx⟩:∃ x,L[i]?=some x:=⟨_,List.getElem?_eq_getElem (by rw [HN.out];exact hlt)⟩
   obtain ⟨b,o,rfl,hat⟩:=HC.out i x hx
   obtain ⟨c0,c1⟩:=Fl.two (hat.keep hnx hat.lt)
   have HX:=Lib.hid hx
   have HNX:=Lib.hid hnx
   clear hx hat hnx
   cases hxe:(x.code.toList==code.toList) with
   | false =>
     have HXE:=Lib.hid ((Lib.bytes_beq_false_iff x.code code).1 hxe)
     go_wp2
     go_roundw
     case rel=>exact ⟨i+1,by omega,by go_num,HNX.out,Lib.hid fun j y hj hy=>by
      rcases Nat.lt_or_ge j i with h | h
      ·exact HNO.out j y h hy
      ·obtain rfl:j=i:=by omega
       rw [HX.out] at hy;cases hy;exact HXE.out⟩
     case measure=>simp [intOf];omega
   | true =>
     have HXE:=Lib.hid ((Lib.bytes_beq_iff x.code code).1 hxe)
     have hres:Hid (r=some x):=Lib.hid (by rw [←HR.out];exact findK_first HNO.out HX.out HXE.out)
     go_wp2
     go_ret2
     rw [←HRV.out,←HSV.out,hres.out]
     exact ⟨rfl,HNX.out⟩
  ·have hres:Hid (r=none):=Lib.hid (by
    rw [←HR.out]
    refine findK_nowhere fun j y hy=>HNO.out j y ?_ hy
    have:=(List.getElem?_eq_some_iff.1 hy).1
    rw [HN.out] at this;omega)
   have HNX:=Lib.hid hnx
   go_wp2
   go_ret2
   rw [←HRV.out,←HSV.out,hres.out]
   exact ⟨rfl,HNX.out⟩
set_option maxRecDepth 100000 in
set_option maxHeartbeats 2000000 in
theorem rwhole_any (v:Value) (L:List Fl.Flow) (w:World) (h:Fl.FlowsV w v L) (hL:L.length≤1000) :
 Calls Tryz.prog 78 #[v] w fun e w'=>e=.returned (.bool (Fl.wholeTo L 5))∧Below w.heap.size w w':=by
 have HV:=Lib.hid h
 obtain ⟨R,hR⟩:∃ R,Fl.wholeTo L 5=R:=⟨_,rfl⟩
 rw [hR]
 have HR:=Lib.hid hR
 have HLL:=Lib.hid hL
 obtain ⟨p,c,rfl,hcap,hm,_,hc⟩:=h
 obtain ⟨n,hn⟩:∃ n,L.length=n:=⟨_,rfl⟩
 rw [hn] at hcap HV ⊢
 unfold maxLen at hm
 clear hc hR hL hn
 go_enter Tryz.func78,Tryz.ntmps78
 go_wp2
 go_loopw [3] (fun s3 wr=>∃ k:Nat,k≤5∧s3=.int .i64 (k:Int)∧Hid (Below w.heap.size w wr)∧Hid (Fl.wholeTo L k=true)) (fun s3 _=>5 - (intOf s3).toNat)
 case atStart=>exact ⟨0,by omega,rfl,Lib.hid (Below.refl _ _),Lib.hid rfl⟩
 case round =>
  obtain ⟨k,hk,rfl,HNX,HW⟩:=hrel
  by_cases h5:k < 5
  ·have hk5:decide ((k:Int) < 5)=true:=decide_eq_true (by omega)
   by_cases h1:k=1
   ·subst h1
    have HW2:Hid (Fl.wholeTo L 2=true):=Lib.hid (by rw [Fl.wholeTo,HW.out];rfl)
    go_wp2
    go_roundw
    case rel=>exact ⟨2,by omega,by go_num,HNX,HW2⟩
    case measure=>simp [intOf]
   ·have hk1:((k:Int) != 1)=true:=by simp;omega
    have HOF:=Lib.hid (Fl.rof_any (.slice p n c) L (k:Int) wr (HV.out.keep HNX.out) HLL.out)
    obtain ⟨m,hmm⟩:∃ m,(Fl.ofF L (k:Int)).length=m:=⟨_,rfl⟩
    have HMM:=Lib.hid hmm
    have HMB:Hid (m≤1000):=Lib.hid (by rw [←hmm];exact Nat.le_trans (Fl.ofF_len_le L _) HLL.out)
    have HWN:Hid (Fl.wholeTo L (k+1)=decide (m=1)):=Lib.hid (by rw [Fl.wholeTo,HW.out,decide_eq_false (p:=(k:Int)=1) (by omega),hmm];rfl)
    clear hmm
    go_wp2_with fail
    refine HOF.out.mono ?_
    rintro en w1 ⟨v1,rfl,⟨p1,c1,rfl,_,hm1,_⟩,hb1⟩
    rw [HMM.out] at hm1 ⊢
    have HNX1:=Lib.hid (HNX.out.trans (hb1.mono HNX.out.size))
    have hmb:=HMB.out
    clear hb1
    by_cases hm0:m=1
    ·subst hm0
     go_wp2
     go_roundw
     case rel=>exact ⟨k+1,by omega,by go_num,HNX1,Lib.hid (by rw [HWN.out];rfl)⟩
     case measure=>simp [intOf];omega
    ·have hmz:((m:Int) != 1)=true:=by simp;omega
     have HRF:Hid (R=false):=Lib.hid (by
      rw [←HR.out]
      have h0:Fl.wholeTo L (k+1)=false:=by rw [HWN.out];exact decide_eq_false hm0
      have hstep:∀ q,Fl.wholeTo L q=false→Fl.wholeTo L (q+1)=false:=fun q hq=>by rw [Fl.wholeTo,hq];rfl
      rcases (by omega:k=0∨k=1∨k=2∨k=3∨k=4) with rfl | rfl | rfl | rfl | rfl
      ·exact hstep _ (hstep _ (hstep _ (hstep _ h0)))
      ·exact hstep _ (hstep _ (hstep _ h0))
      ·exact hstep _ (hstep _ h0)
      ·exact hstep _ h0
      ·exact h0)
     go_wp2
     go_ret
     exact ⟨ret_bool HRF.out.symm,HNX1.out⟩
  ·obtain rfl:k=5:=by omega
   have HRF:Hid (R=true):=Lib.hid (by rw [←HR.out,HW.out])
   go_wp2
   go_ret
   exact ⟨ret_bool HRF.out.symm,HNX.out⟩
end Go.Proofs.YtdegffffcbhjbaaGreatDoor.Un
end
