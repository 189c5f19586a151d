/- UnitSmall ChartDocAdd FlowDocAdd -/
import Derived.Test.YtfhhihamndbcnaaGreatDoorR12
import Derived.Test.YtfhhihamndbcnaaGreatDoorR28
import Derived.Test.YtfhhihamndbcnaaGreatDoorR29
import Derived.Test.YtfhhihamndbcnaaGreatDoorR32
import Derived.Test.YtfhhihamndbcnaaGreatDoorR33
section
namespace Go.Proofs.YtfhhihamndbcnaaGreatDoor.Un
open Go.RowKit
abbrev xa:ByteArray:=⟨#[97]⟩
abbrev xb:ByteArray:=⟨#[98]⟩
abbrev xc:ByteArray:=⟨#[99]⟩
abbrev xF0:ByteArray:=⟨#[70,48]⟩
abbrev xF1:ByteArray:=⟨#[70,49]⟩
abbrev xF8:ByteArray:=⟨#[70,56]⟩
abbrev xF9:ByteArray:=⟨#[70,57]⟩
abbrev xFz:ByteArray:=⟨#[70,122]⟩
abbrev xE1:ByteArray:=⟨#[69,49]⟩
abbrev xU:ByteArray:=⟨#[85,83,68]⟩
abbrev xL1:ByteArray:=⟨#[76,49]⟩
def accLines:List (List ByteArray):=[[tAccount,xa,tAsset],[tAccount,xb,tLiability],[tAccount,xc,tEquity]]
def restLines:List (List ByteArray):=[[Fl.tFlow,xF0,Fl.tOpen],[Fl.tFlow,xF1,Fl.tMove],[Fl.tFlow,xF8,Fl.tFx],[Fl.tFlow,xF9,Fl.tScope],[Fl.tFlow,xFz,Fl.tClose],[tEntity,xE1,xU],[tGroup,xU],[tReserve,xc],[tMinor,xc],[tDiffer,xa],[tStake,xa],[tMap,xa,xF1,xL1]]
def smallL:List (List ByteArray):=accLines++restLines
abbrev plainAcc (s:ByteArray) (k:Int):Acct:=⟨s,k,false,false,emp,false⟩
theorem plain_marks (s:ByteArray) (k:Int):marksA (plainAcc s k)=true:=by
 unfold marksA
 simp [neB_empty]
theorem plain_parse (s:ByteArray) (k:Int) (hs:nmB s=true) (hk:k=0∨k=1∨k=2):parseA [tAccount,s,clsW k]=(plainAcc s k,0):=by
 have hr:rightA (plainAcc s k)=true:=by
  unfold rightA
  rw [plain_marks,hs]
  rcases hk with rfl | rfl | rfl <;> rfl
 refine parse_of hr ?_
 unfold wordsA
 rw [if_pos hr]
 unfold markW
 simp [neB_empty]
theorem acO_a:acO [tAccount,xa,tAsset]=some (plainAcc xa 0):=by
 have h:=plain_parse xa 0 (by decide) (by simp)
 rw [acO_yes rfl (by rw [show [tAccount,xa,tAsset]=[tAccount,xa,clsW 0] from rfl,h]),show [tAccount,xa,tAsset]=[tAccount,xa,clsW 0] from rfl,h]
theorem acO_b:acO [tAccount,xb,tLiability]=some (plainAcc xb 1):=by
 have h:=plain_parse xb 1 (by decide) (by simp)
 rw [acO_yes rfl (by rw [show [tAccount,xb,tLiability]=[tAccount,xb,clsW 1] from rfl,h]),show [tAccount,xb,tLiability]=[tAccount,xb,clsW 1] from rfl,h]
theorem acO_c:acO [tAccount,xc,tEquity]=some (plainAcc xc 2):=by
 have h:=plain_parse xc 2 (by decide) (by simp)
 rw [acO_yes rfl (by rw [show [tAccount,xc,tEquity]=[tAccount,xc,clsW 2] from rfl,h]),show [tAccount,xc,tEquity]=[tAccount,xc,clsW 2] from rfl,h]
def smallA:List Acct:=[plainAcc xa 0,plainAcc xb 1,plainAcc xc 2]
def smallF:List Fl.Flow:=[⟨xF0,0⟩,⟨xF1,1⟩,⟨xF8,2⟩,⟨xF9,3⟩,⟨xFz,4⟩]
theorem small_good:∀ ws∈smallL,Good ws:=by
 intro ws hw
 rcases List.mem_append.1 hw with h | h
 ·left
  simp only [accLines,List.mem_cons,List.not_mem_nil,or_false] at h
  rcases h with rfl | rfl | rfl
  ·exact ⟨rfl,by rw [show [tAccount,xa,tAsset]=[tAccount,xa,clsW 0] from rfl,plain_parse xa 0 (by decide) (by simp)]⟩
  ·exact ⟨rfl,by rw [show [tAccount,xb,tLiability]=[tAccount,xb,clsW 1] from rfl,plain_parse xb 1 (by decide) (by simp)]⟩
  ·exact ⟨rfl,by rw [show [tAccount,xc,tEquity]=[tAccount,xc,clsW 2] from rfl,plain_parse xc 2 (by decide) (by simp)]⟩
 ·right
  simp only [restLines,List.mem_cons,List.not_mem_nil,or_false] at h
  rcases h with rfl | rfl | rfl | rfl | rfl | rfl | rfl | rfl | rfl | rfl | rfl | rfl
  ·exact .inl ⟨by kernel_rfl,by kernel_rfl⟩
  ·exact .inl ⟨by kernel_rfl,by kernel_rfl⟩
  ·exact .inl ⟨by kernel_rfl,by kernel_rfl⟩
  ·exact .inl ⟨by kernel_rfl,by kernel_rfl⟩
  ·exact .inl ⟨by kernel_rfl,by kernel_rfl⟩
  ·exact .inr (by kernel_rfl)
  ·exact .inr (by kernel_rfl)
  ·exact .inr (by kernel_rfl)
  ·exact .inr (by kernel_rfl)
  ·exact .inr (by kernel_rfl)
  ·exact .inr (by kernel_rfl)
  ·exact .inr (by kernel_rfl)
theorem oneL_at {x y:ByteArray} (h:[y]=oneL x):x=y:=by
 unfold oneL at h
 split at h
 ·cases h
 ·simpa using h.symm
theorem has_of {C:List Acct} {a:Acct} (h:a∈C):hasA C a.code=true:=findL_some h
theorem plain_of {C:List Acct} {a:Acct} (hr:riseL C=true) (h:a∈C) (k:Int) (he:a=plainAcc a.code k):plainA C a.code k=true:=by
 have e:findL C a.code=some a:=by
  have h1:G.findK Acct.code C a.code=some a:=G.findK_of_mem (by rw [←riseL_eq];exact hr) h
  rw [←h1]
  clear h1 hr h
  induction C with
  | nil=>rfl
  | cons y C ih=>simp only [findL,G.findK];rw [ih]
 unfold plainA
 rw [e]
 exact decide_eq_true he
theorem hasF_of {L:List Fl.Flow} {f:Fl.Flow} (h:f∈L):Fl.hasF L f.kind=true:=by
 unfold Fl.hasF
 exact decide_eq_true (List.length_pos_of_mem (Fl.mem_of.2 ⟨f,h,rfl,rfl⟩))
end Go.Proofs.YtfhhihamndbcnaaGreatDoor.Un
end
section
namespace Go.Proofs.YtfhhihamndbcnaaGreatDoor.Un
open Go.RowKit
theorem info_racct:InfoE Tryz.prog 32 172 encA :=
 InfoE.of (z:=aggF zeroA) (n:=56) Tryz.underlying32 (by kernel_rfl) (by kernel_rfl) (by decide)
theorem insL_eqR:∀ (L:List Acct) (x:Acct),insL L x=G.insR Acct.code L x
 | [],_=>rfl
 | a::L,x=>by
   have ih:=insL_eqR L x
   simp only [insL,G.insR]
   by_cases h:gtS a.code x.code=true
   ·rw [if_pos h,if_pos (show G.KeyO.lt (Acct.code x) (Acct.code a)=true from (gtS_iff _ _).1 h)]
   ·rw [if_neg h,if_neg (show ¬ G.KeyO.lt (Acct.code x) (Acct.code a)=true from fun h'=>h ((gtS_iff _ _).2 h')),ih]
theorem none_all {L:List Acct} {c:ByteArray} (h:(findL L c).isSome=false):∀ (j:Nat) (y:Acct),L[j]?=some y→y.code≠c:=fun j y hy e=>by
 have:=findL_some (List.mem_of_getElem? hy)
 rw [e,h] at this;cases this
theorem els_keep {α:Type} {E:Enc α} {w w':World} {p:Option Addr} {L:List α} (h:∀ (i:Nat) (x:α),L[i]?=some x→∃ b o,p=some ⟨b,o,none⟩∧ElAt E w b (o+i * E.k) x) (hb:Below w.heap.size w w'):∀ (i:Nat) (x:α),L[i]?=some x→∃ b o,p=some ⟨b,o,none⟩∧ElAt E w' b (o+i * E.k) x:=fun i x hx=>by
 obtain ⟨b,o,e,hat⟩:=h i x hx
 exact ⟨b,o,e,hat.keep hb hat.lt⟩
set_option maxRecDepth 100000 in
set_option maxHeartbeats 8000000 in
theorem rcadd_any (v:Value) (L:List Acct) (x:Acct) (w:World) (h:ElsV encA w v L) (hL:L.length≤1000) :
 Calls Tryz.prog 87 #[v,aggF x] w (ListTold encA w v (G.insR Acct.code L x) (addE L x)):=by
 have hB0:=(Below.refl w.heap.size w).alloc (Nat.le_refl _) (.cells (encA.cs x).toArray 172)
 have HX:=Lib.hid (BoxE.new encA w x 172)
 have HV:=Lib.hid (h.keep hB0)
 have HB:=Lib.hid hB0
 have HF:=Lib.hid (rcfind_any v L x.code (w.alloc (.cells (encA.cs x).toArray 172)) (chart_els.2 HV.out))
 obtain ⟨p,c,e,hcap,hm,_,hc⟩:=HV.out
 subst e
 obtain ⟨n,hn⟩:∃ n,L.length=n:=⟨_,rfl⟩
 rw [hn] at hcap hL HV HF ⊢
 obtain ⟨FA,hFA⟩:∃ FA,findV (findL L x.code)=FA:=⟨_,rfl⟩
 obtain ⟨IS,hIS⟩:∃ IS,(findL L x.code).isSome=IS:=⟨_,rfl⟩
 rw [hFA,hIS] at HF
 obtain ⟨RT,hRT⟩:∃ RT,rightA x=RT:=⟨_,rfl⟩
 have HRI:=Lib.hid (rright_any x)
 rw [hRT] at HRI
 obtain ⟨N,hN⟩:∃ N,addE L x=N:=⟨_,rfl⟩
 rw [hN]
 have HNE:Hid (N=if RT=false then 1 else if IS=true then 7 else if 60≤n then 4 else 0):=Lib.hid (by rw [←hN,←hRT,←hIS,←hn];rfl)
 have HI:=Lib.hid info_racct
 have HN:=Lib.hid hn
 have HISV:=Lib.hid hIS
 unfold maxLen at hm
 obtain ⟨q0,q1,q2,q3,q4,q5⟩:=acct6 HX.out.at0
 have HC0:=Lib.hid hc
 clear h hB0 hn hFA hIS hRT hN hc
 go_enter Tryz.func87,Tryz.ntmps87
 go_wp2_with fail
 refine HF.out.mono ?_
 rintro en w1 ⟨rfl,hb1⟩
 have HB1:=Lib.hid (HB.out.trans (hb1.mono HB.out.size))
 have HX1:=Lib.hid (HX.out.kept hb1)
 have HV1:=Lib.hid (HV.out.keep hb1)
 have HC1:=Lib.hid (els_keep HC0.out hb1)
 clear hb1 HF HB HX HV HC0 q0 q1 q2 q3 q4 q5
 have HBA:=Lib.hid ((Below.refl w1.heap.size w1).alloc (Nat.le_refl _) (.cells (encA.cs zeroA).toArray 172))
 go_wp2_with (refine wpList_store_acct rfl 172 (.tmp 6) (.tmp 16) rfl w1.heap.size zeroA FA 172 rfl rfl (BoxA.new w1 zeroA _) (by kernel_rfl) ?_;intro w2 hb2 hg2;have HG2:Hid (Below w1.heap.size w1 w2):=Lib.hid (HBA.out.grown hg2 HBA.out.size (fun j hj=>by cases hj;exact Nat.le_refl _));have HX2:=Lib.hid (HX1.out.kept HG2.out);obtain ⟨q0,q1,q2,q3,q4,q5⟩:=acct6 HX2.out.at0;clear hb2 hg2)
 refine (HRI.out _).mono ?_
 rintro en w3 ⟨rfl,hb3⟩
 have HB3:=Lib.hid ((HB1.out.trans (HG2.out.mono HB1.out.size)).trans (hb3.mono (Nat.le_trans HB1.out.size HG2.out.size)))
 have HX3:=Lib.hid (HX2.out.kept hb3)
 have HV3:=Lib.hid ((HV1.out.keep HG2.out).keep hb3)
 have HC3:=Lib.hid (els_keep (els_keep HC1.out HG2.out) hb3)
 clear hb3 HC1 HG2 HX2 HX1 HV1 HB1 HBA HRI q0 q1 q2 q3 q4 q5
 cases RT with
 | false =>
   have HRS:Hid (N=1):=Lib.hid (by rw [HNE.out,if_pos rfl])
   go_wp2
   go_ret2
   rw [HRS.out]
   exact ⟨_,rfl,fun _=>rfl,fun h=>absurd h (by decide),HB3.out⟩
 | true =>
   cases IS with
   | true =>
     have HRS:Hid (N=7):=Lib.hid (by rw [HNE.out,if_neg (by simp),if_pos rfl])
     go_wp2
     go_ret2
     rw [HRS.out]
     exact ⟨_,rfl,fun _=>rfl,fun h=>absurd h (by decide),HB3.out⟩
   | false =>
     by_cases h60:60≤n
     ·have HRS:Hid (N=4):=Lib.hid (by rw [HNE.out,if_neg (by simp),if_neg (by simp),if_pos h60])
      go_wp2
      go_ret2
      rw [HRS.out]
      exact ⟨_,rfl,fun _=>rfl,fun h=>absurd h (by decide),HB3.out⟩
     ·have HRS:Hid (N=0):=Lib.hid (by rw [HNE.out,if_neg (by simp),if_neg (by simp),if_neg h60])
      have HNO:=Lib.hid (none_all HISV.out)
      have HC:=HC3
      clear HISV HC3
      obtain ⟨W0,hW0⟩:∃ W0,w3=W0:=⟨_,rfl⟩
      subst hW0
      have HST:Hid (InsAt encA Acct.code 172 w3 w3 L x 0 (.slice none 0 0)):=Lib.hid ⟨World.ownsRow_nil _ _ _ _,Below.refl _ _,fun j y _ hy=>HNO.out j y hy⟩
      go_wp2
      go_loopw [8,9,10] (fun s6 s7 s8 wr=>∃ (i:Nat) (v6:Value),i≤n∧s8=.int .i64 (i:Int)∧v6=s6∧s7=.bool (G.doneR Acct.code (L.take i) x)∧Hid (InsAt encA Acct.code 172 w3 wr L x i v6)) (fun _ _ s8 _=>n - (intOf s8).toNat)
      case atStart=>exact ⟨0,_,Nat.zero_le _,rfl,rfl,rfl,HST⟩
      case round =>
       obtain ⟨i,v6,hi,rfl,rfl,rfl,HA⟩:=hrel
       by_cases hlt:i < n
       ·obtain ⟨y,hy⟩:∃ y,L[i]?=some y:=⟨_,List.getElem?_eq_getElem (by rw [HN.out];exact hlt)⟩
        obtain ⟨b,o,rfl,hat⟩:=HC.out i y hy
        obtain ⟨d0,d1,d2,d3,d4,d5⟩:=acct6 (hat.keep HA.out.bel hat.lt)
        obtain ⟨q0,q1,q2,q3,q4,q5⟩:=acct6 ((HX3.out.keep HA.out.bel HX3.out.lt).at0)
        have HY:=Lib.hid hy
        have HAT:=Lib.hid hat
        have HTK:Hid (L.take (i+1)=L.take i++[y]):=Lib.hid (by rw [List.take_succ_eq_append_getElem (by rw [HN.out];exact hlt),(List.getElem?_eq_some_iff.1 hy).2])
        obtain ⟨D,hD⟩:∃ D,G.doneR Acct.code (L.take i) x=D:=⟨_,rfl⟩
        have HD:=Lib.hid hD
        rw [hD]
        clear hy hat hD
        have HYE:=Lib.hid (HNO.out i y HY.out)
        cases D with
        | true =>
          go_wp2_with fail
          go_big_quiet (fail)
          have HA2:=Lib.hid (HA.out.drewN nq)
          clear d0 d1 d2 d3 d4 d5 q0 q1 q2 q3 q4 q5 HA
          generalize wr.drewN nq=w2 at *
          obtain ⟨d0,d1,d2,d3,d4,d5⟩:=acct6 (HAT.out.keep HA2.out.bel HAT.out.lt)
          obtain ⟨q0,q1,q2,q3,q4,q5⟩:=acct6 ((HX3.out.keep HA2.out.bel HX3.out.lt).at0)
          have HBN:=Lib.hid ((Below.refl w2.heap.size w2).alloc (Nat.le_refl _) (.cells (encA.cs y).toArray 172))
          go_wp2_with (at_builtin;refine wpList_append_el (E:=encA) rfl _ _ 32 172 rfl HI.out w3.heap.size _ y w2.heap.size (HA2.out.own.alloc _) rfl (el_new encA w2 y _) (by have:=HA2.out.bel.size;simp;omega) (mid_small HN.out hL) ?_;intro v9 w9 hr9 hb9 hg9)
          have HA9:Hid (InsAt encA Acct.code 172 w3 w9 L x (i+1) v9):=Lib.hid ⟨by rw [HTK.out,G.midR_there y HD.out];exact hr9,(HA2.out.bel.trans (HBN.out.mono HA2.out.bel.size)).trans hb9,no_snoc HA2.out.no HY.out HYE.out⟩
          have HD9:Hid (G.doneR Acct.code (L.take (i+1)) x=true):=Lib.hid (by rw [HTK.out,G.doneR_snoc,HD.out];first | rfl | (rw [HLT.out];rfl))
          clear hr9 hb9 hg9 d0 d1 d2 d3 d4 d5 q0 q1 q2 q3 q4 q5
          go_wp2
          go_roundw
          case rel=>exact ⟨i+1,_,by omega,by go_num,rfl,by rw [HD9.out],HA9⟩
          case measure=>simp [intOf];omega
        | false =>
          cases hlx:gtS y.code x.code with
          | true =>
            have HLT:Hid (G.KeyO.lt (Acct.code x) (Acct.code y)=true):=Lib.hid ((gtS_iff _ _).1 hlx)
            unfold gtS ltS at hlx
            simp only [Bool.not_eq_true',Bool.or_eq_false_iff] at hlx
            obtain ⟨g1,g2⟩:=hlx
            go_wp2_with fail
            go_big_quiet (fail)
            clear g1 g2
            have HA2:=Lib.hid (HA.out.drewN nq)
            clear d0 d1 d2 d3 d4 d5 q0 q1 q2 q3 q4 q5 HA
            generalize wr.drewN nq=w2 at *
            obtain ⟨d0,d1,d2,d3,d4,d5⟩:=acct6 (HAT.out.keep HA2.out.bel HAT.out.lt)
            obtain ⟨q0,q1,q2,q3,q4,q5⟩:=acct6 ((HX3.out.keep HA2.out.bel HX3.out.lt).at0)
            have HBN:=Lib.hid ((Below.refl w2.heap.size w2).alloc (Nat.le_refl _) (.cells (encA.cs x).toArray 172))
            go_wp2_with (at_builtin;first
             | (refine wpList_append_el (E:=encA) rfl _ _ 32 172 rfl HI.out w3.heap.size _ x w2.heap.size (HA2.out.own.alloc _) rfl (el_new encA w2 x _) (by have:=HA2.out.bel.size;simp;omega) (mid_small HN.out hL) ?_;intro v8 w8 hr8 hb8 hg8;have HB8:Hid (Below w3.heap.size w3 w8):=Lib.hid ((HA2.out.bel.trans (HBN.out.mono HA2.out.bel.size)).trans hb8);have HO8:=Lib.hid hr8;have HB9:=Lib.hid ((Below.refl w8.heap.size w8).alloc (Nat.le_refl _) (.cells (encA.cs y).toArray 172));clear d0 d1 d2 d3 d4 d5 q0 q1 q2 q3 q4 q5 hr8 hb8 hg8;obtain ⟨d0,d1,d2,d3,d4,d5⟩:=acct6 (HAT.out.keep HB8.out HAT.out.lt))
             | (refine wpList_append_el (E:=encA) rfl _ _ 32 172 rfl HI.out w3.heap.size _ y w8.heap.size (HO8.out.alloc _) rfl (el_new encA w8 y _) (by have:=HB8.out.size;simp;omega) (mid_small1 HN.out hL) ?_;intro v9 w9 hr9 hb9 hg9)
             | fail)
            have HA9:Hid (InsAt encA Acct.code 172 w3 w9 L x (i+1) v9):=Lib.hid ⟨by rw [HTK.out,G.midR_now HD.out HLT.out];exact hr9,(HB8.out.trans (HB9.out.mono HB8.out.size)).trans hb9,no_snoc HA2.out.no HY.out HYE.out⟩
            have HD9:Hid (G.doneR Acct.code (L.take (i+1)) x=true):=Lib.hid (by rw [HTK.out,G.doneR_snoc,HD.out,HLT.out];rfl)
            clear hr9 hb9 hg9 d0 d1 d2 d3 d4 d5
            go_wp2
            go_roundw
            case rel=>exact ⟨i+1,_,by omega,by go_num,rfl,by rw [HD9.out],HA9⟩
            case measure=>simp [intOf];omega
          | false =>
            have HLT:Hid (G.KeyO.lt (Acct.code x) (Acct.code y)=false):=Lib.hid (by
             cases hh:G.KeyO.lt (Acct.code x) (Acct.code y) with
             | false=>rfl
             | true=>rw [(gtS_iff y.code x.code).2 hh] at hlx;cases hlx)
            unfold gtS ltS at hlx
            simp only [Bool.not_eq_false'] at hlx
            go_wp2_with fail
            go_big_quiet (fail)
            clear hlx
            have HA2:=Lib.hid (HA.out.drewN nq)
            clear d0 d1 d2 d3 d4 d5 q0 q1 q2 q3 q4 q5 HA
            generalize wr.drewN nq=w2 at *
            obtain ⟨d0,d1,d2,d3,d4,d5⟩:=acct6 (HAT.out.keep HA2.out.bel HAT.out.lt)
            obtain ⟨q0,q1,q2,q3,q4,q5⟩:=acct6 ((HX3.out.keep HA2.out.bel HX3.out.lt).at0)
            have HBN:=Lib.hid ((Below.refl w2.heap.size w2).alloc (Nat.le_refl _) (.cells (encA.cs y).toArray 172))
            go_wp2_with (at_builtin;refine wpList_append_el (E:=encA) rfl _ _ 32 172 rfl HI.out w3.heap.size _ y w2.heap.size (HA2.out.own.alloc _) rfl (el_new encA w2 y _) (by have:=HA2.out.bel.size;simp;omega) (mid_small HN.out hL) ?_;intro v9 w9 hr9 hb9 hg9)
            have HA9:Hid (InsAt encA Acct.code 172 w3 w9 L x (i+1) v9):=Lib.hid ⟨by rw [HTK.out,G.midR_not HD.out HLT.out];exact hr9,(HA2.out.bel.trans (HBN.out.mono HA2.out.bel.size)).trans hb9,no_snoc HA2.out.no HY.out HYE.out⟩
            have HD9:Hid (G.doneR Acct.code (L.take (i+1)) x=false):=Lib.hid (by rw [HTK.out,G.doneR_snoc,HD.out];first | rfl | (rw [HLT.out];rfl))
            clear hr9 hb9 hg9 d0 d1 d2 d3 d4 d5 q0 q1 q2 q3 q4 q5
            go_wp2
            go_roundw
            case rel=>exact ⟨i+1,_,by omega,by go_num,rfl,by rw [HD9.out],HA9⟩
            case measure=>simp [intOf];omega
       ·have hTA:Hid (L.take i=L):=Lib.hid (List.take_of_length_le (by rw [HN.out];omega))
        rw [hTA.out]
        obtain ⟨D,hD⟩:∃ D,G.doneR Acct.code L x=D:=⟨_,rfl⟩
        have HD:=Lib.hid hD
        rw [hD]
        clear hD
        have HO:=Lib.hid HA.out.own
        rw [hTA.out] at HO
        cases D with
        | true =>
          go_wp2
          go_ret2
          rw [HRS.out]
          exact ⟨_,rfl,fun h=>absurd rfl h,fun _=>⟨_,by rw [←G.midR_end HD.out];exact row_base HO.out HB3.out.size⟩,HB3.out.trans (HA.out.bel.mono HB3.out.size)⟩
        | false =>
          obtain ⟨q0,q1,q2,q3,q4,q5⟩:=acct6 ((HX3.out.keep HA.out.bel HX3.out.lt).at0)
          have HBN:=Lib.hid ((Below.refl wr.heap.size wr).alloc (Nat.le_refl _) (.cells (encA.cs x).toArray 172))
          go_wp2_with (at_builtin;refine wpList_append_el (E:=encA) rfl _ _ 32 172 rfl HI.out w3.heap.size _ x wr.heap.size (HO.out.alloc _) rfl (el_new encA wr x _) (by have:=HA.out.bel.size;simp;omega) (mid_small0 HN.out hL) ?_;intro v9 w9 hr9 hb9 hg9)
          have HO9:=Lib.hid hr9
          have HB9:=Lib.hid ((HA.out.bel.trans (HBN.out.mono HA.out.bel.size)).trans hb9)
          clear hr9 hb9 hg9 q0 q1 q2 q3 q4 q5
          go_wp2
          go_ret2
          rw [HRS.out]
          exact ⟨_,rfl,fun h=>absurd rfl h,fun _=>⟨_,by rw [←G.midR_last HD.out];exact row_base HO9.out HB3.out.size⟩,HB3.out.trans (HB9.out.mono HB3.out.size)⟩
end Go.Proofs.YtfhhihamndbcnaaGreatDoor.Un
end
section
namespace Go.Proofs.YtfhhihamndbcnaaGreatDoor.Un
open Go.RowKit
theorem info_rflow:InfoE Tryz.prog 33 140 Fl.encF :=
 InfoE.of (z:=.agg #[.string ⟨#[]⟩,.int .i64 0]) (n:=24) Tryz.underlying33 (by kernel_rfl) (by kernel_rfl) (by decide)
theorem placeF_eq:∀ (L:List Fl.Flow) (c:ByteArray),placeK Fl.Flow.code L c=G.placeK Fl.Flow.code L c
 | [],_=>rfl
 | a::L,c=>by
   have ih:=placeF_eq L c
   simp only [placeK,G.placeK]
   rw [ih];rfl
theorem insF_eq (L:List Fl.Flow) (x:Fl.Flow):insK Fl.Flow.code L x=G.insK Fl.Flow.code L x:=by
 unfold insK G.insK
 rw [placeF_eq]
theorem findF_eq:∀ (L:List Fl.Flow) (c:ByteArray),findK Fl.Flow.code L c=G.findK Fl.Flow.code L c
 | [],_=>rfl
 | a::L,c=>by
   have ih:=findF_eq L c
   simp only [findK,G.findK]
   rw [ih]
theorem insF_eqR {L:List Fl.Flow} {x:Fl.Flow} (hr:riseK Fl.Flow.code L=true) (h:Fl.findF L x.code=none):insK Fl.Flow.code L x=G.insR Fl.Flow.code L x:=by
 rw [insF_eq,G.insR_eq (by rw [←riseF_eq];exact hr) (by rw [←findF_eq];exact h)]
theorem noneF_all {L:List Fl.Flow} {c:ByteArray} (h:(Fl.findF L c).isSome=false):∀ (j:Nat) (y:Fl.Flow),L[j]?=some y→y.code≠c:=fun j y hy e=>by
 cases hf:Fl.findF L c with
 | some z=>rw [hf] at h;cases h
 | none=>exact findK_no hf y (List.mem_of_getElem? hy) e
set_option maxRecDepth 100000 in
set_option maxHeartbeats 8000000 in
theorem rfadd_any (v:Value) (L:List Fl.Flow) (x:Fl.Flow) (w:World) (h:Fl.FlowsV w v L) (hr:riseK Fl.Flow.code L=true) (hL:L.length≤1000) :
 Calls Tryz.prog 89 #[v,Fl.aggL x] w (ListTold Fl.encF w v (G.insR Fl.Flow.code L x) (Fl.addE L x)):=by
 have hB0:=(Below.refl w.heap.size w).alloc (Nat.le_refl _) (.cells (Fl.encF.cs x).toArray 140)
 have HX:=Lib.hid (BoxE.new Fl.encF w x 140)
 have HV:=Lib.hid (h.keep hB0)
 have HB:=Lib.hid hB0
 have HF:=Lib.hid (rkind_any v L x.code (w.alloc (.cells (Fl.encF.cs x).toArray 140)) HV.out)
 have HOF:=Lib.hid (fun W (hW:Fl.FlowsV W v L)=>Fl.rof_any v L x.kind W hW hL)
 obtain ⟨p,c,e,hcap,hm,_,hc⟩:=HV.out
 subst e
 obtain ⟨n,hn⟩:∃ n,L.length=n:=⟨_,rfl⟩
 rw [hn] at hcap hL HV HF HOF ⊢
 obtain ⟨FA,hFA⟩:∃ FA,kindO' (Fl.findF L x.code)=FA:=⟨_,rfl⟩
 obtain ⟨IS,hIS⟩:∃ IS,(Fl.findF L x.code).isSome=IS:=⟨_,rfl⟩
 rw [hFA,hIS] at HF
 obtain ⟨RT,hRT⟩:∃ RT,Fl.rightF x=RT:=⟨_,rfl⟩
 have HRI:=Lib.hid (Fl.rright_any x)
 rw [hRT] at HRI
 obtain ⟨OF,hOF⟩:∃ OF,Fl.ofF L x.kind=OF:=⟨_,rfl⟩
 rw [hOF] at HOF
 obtain ⟨m,hmm⟩:∃ m,OF.length=m:=⟨_,rfl⟩
 have hmb:m≤n:=by rw [←hmm,←hOF,←hn];exact Fl.ofF_len_le L _
 obtain ⟨N,hN⟩:∃ N,Fl.addE L x=N:=⟨_,rfl⟩
 rw [hN]
 have HNE:Hid (N=if RT=false then 1 else if (IS || (decide (x.kind≠1) && decide (0 < m)))=true then 7 else if 60≤n then 4 else 0):=Lib.hid (by
  rw [←hN,←hRT,←hIS,←hn,←hmm,←hOF,←(isK_find hr x.code).1];rfl)
 have HI:=Lib.hid info_rflow
 have HN:=Lib.hid hn
 have HMM:=Lib.hid hmm
 have HISV:=Lib.hid hIS
 unfold maxLen at hm
 obtain ⟨q0,q1⟩:=Fl.two HX.out.at0
 have HC0:=Lib.hid hc
 clear h hB0 hn hFA hIS hRT hN hc hmm hOF hr
 go_enter Tryz.func89,Tryz.ntmps89
 go_wp2_with fail
 refine HF.out.mono ?_
 rintro en w1 ⟨rfl,hb1⟩
 have HB1:=Lib.hid (HB.out.trans (hb1.mono HB.out.size))
 have HX1:=Lib.hid (HX.out.kept hb1)
 have HV1:=Lib.hid (HV.out.keep hb1)
 have HC1:=Lib.hid (els_keep HC0.out hb1)
 clear hb1 HF HB HX HV HC0 q0 q1
 obtain ⟨q0,q1⟩:=Fl.two HX1.out.at0
 go_wp2_with fail
 refine (HRI.out _).mono ?_
 rintro en w4 ⟨rfl,hb2⟩
 have HB2:=Lib.hid (HB1.out.trans (hb2.mono HB1.out.size))
 have HX2:=Lib.hid (HX1.out.kept hb2)
 have HV2:=Lib.hid (HV1.out.keep hb2)
 have HC2:=Lib.hid (els_keep HC1.out hb2)
 clear hb2 HX1 HV1 HB1 HC1 HRI q0 q1
 obtain ⟨q0,q1⟩:=Fl.two HX2.out.at0
 have hmz:(m:Int)≤1000:=by omega
 cases RT with
 | false =>
   have HRS:Hid (N=1):=Lib.hid (by rw [HNE.out,if_pos rfl])
   go_wp2
   go_ret2
   rw [HRS.out]
   exact ⟨_,rfl,fun _=>rfl,fun h=>absurd h (by decide),HB2.out⟩
 | true =>
   cases IS with
   | true =>
     have HRS:Hid (N=7):=Lib.hid (by rw [HNE.out];rfl)
     go_wp2
     go_ret2
     rw [HRS.out]
     exact ⟨_,rfl,fun _=>rfl,fun h=>absurd h (by decide),HB2.out⟩
   | false =>
     have HNO:=Lib.hid (noneF_all HISV.out)
     clear HISV
     by_cases hk:x.kind=1
     ·have hkz:(x.kind != 1)=false:=by simp [hk]
      have HKK:Hid (decide (x.kind≠1)=false):=Lib.hid (by simp [hk])
      clear hk
      have HX3:=HX2
      have HV3:=HV2
      have HB3:=HB2
      have HC:=HC2
      by_cases h60:60≤n
      ·have HRS:Hid (N=4):=Lib.hid (by rw [HNE.out];simp only [HKK.out,Bool.false_and,Bool.or_self,Bool.false_eq_true,Bool.true_eq_false,if_false];exact if_pos h60)
       go_wp2
       go_ret2
       rw [HRS.out]
       exact ⟨_,rfl,fun _=>rfl,fun h=>absurd h (by decide),HB3.out⟩
      ·have HRS:Hid (N=0):=Lib.hid (by rw [HNE.out];simp only [HKK.out,Bool.false_and,Bool.or_self,Bool.false_eq_true,Bool.true_eq_false,if_false];exact if_neg h60)
       have HST:Hid (InsAt Fl.encF Fl.Flow.code 140 w4 w4 L x 0 (.slice none 0 0)):=Lib.hid ⟨World.ownsRow_nil _ _ _ _,Below.refl _ _,fun j y _ hy=>HNO.out j y hy⟩
       go_wp2
       go_loopw [8,9,10] (fun s6 s7 s8 wr=>∃ (i:Nat) (v6:Value),i≤n∧s8=.int .i64 (i:Int)∧v6=s6∧s7=.bool (G.doneR Fl.Flow.code (L.take i) x)∧Hid (InsAt Fl.encF Fl.Flow.code 140 w4 wr L x i v6)) (fun _ _ s8 _=>n - (intOf s8).toNat)
       case atStart=>exact ⟨0,_,Nat.zero_le _,rfl,rfl,rfl,HST⟩
       case round =>
        obtain ⟨i,v6,hi,rfl,rfl,rfl,HA⟩:=hrel
        by_cases hlt:i < n
        ·obtain ⟨y,hy⟩:∃ y,L[i]?=some y:=⟨_,List.getElem?_eq_getElem (by rw [HN.out];exact hlt)⟩
         obtain ⟨b,o,rfl,hat⟩:=HC.out i y hy
         obtain ⟨d0,d1⟩:=Fl.two (hat.keep HA.out.bel hat.lt)
         obtain ⟨q0,q1⟩:=Fl.two ((HX3.out.keep HA.out.bel HX3.out.lt).at0)
         have HY:=Lib.hid hy
         have HAT:=Lib.hid hat
         have HTK:Hid (L.take (i+1)=L.take i++[y]):=Lib.hid (by rw [List.take_succ_eq_append_getElem (by rw [HN.out];exact hlt),(List.getElem?_eq_some_iff.1 hy).2])
         obtain ⟨D,hD⟩:∃ D,G.doneR Fl.Flow.code (L.take i) x=D:=⟨_,rfl⟩
         have HD:=Lib.hid hD
         rw [hD]
         clear hy hat hD
         have HYE:=Lib.hid (HNO.out i y HY.out)
         cases D with
         | true =>
           go_wp2_with fail
           go_big_quiet (fail)
           have HA2:=Lib.hid (HA.out.drewN nq)
           clear d0 d1 q0 q1 HA
           generalize wr.drewN nq=w2 at *
           obtain ⟨d0,d1⟩:=Fl.two (HAT.out.keep HA2.out.bel HAT.out.lt)
           obtain ⟨q0,q1⟩:=Fl.two ((HX3.out.keep HA2.out.bel HX3.out.lt).at0)
           have HBN:=Lib.hid ((Below.refl w2.heap.size w2).alloc (Nat.le_refl _) (.cells (Fl.encF.cs y).toArray 140))
           go_wp2_with (at_builtin;refine wpList_append_el (E:=Fl.encF) rfl _ _ 33 140 rfl HI.out w4.heap.size _ y w2.heap.size (HA2.out.own.alloc _) rfl (el_new Fl.encF w2 y _) (by have:=HA2.out.bel.size;simp;omega) (mid_small HN.out hL) ?_;intro v9 w9 hr9 hb9 hg9)
           have HA9:Hid (InsAt Fl.encF Fl.Flow.code 140 w4 w9 L x (i+1) v9):=Lib.hid ⟨by rw [HTK.out,G.midR_there y HD.out];exact hr9,(HA2.out.bel.trans (HBN.out.mono HA2.out.bel.size)).trans hb9,no_snoc HA2.out.no HY.out HYE.out⟩
           have HD9:Hid (G.doneR Fl.Flow.code (L.take (i+1)) x=true):=Lib.hid (by rw [HTK.out,G.doneR_snoc,HD.out];first | rfl | (rw [HLT.out];rfl))
           clear hr9 hb9 hg9 d0 d1 q0 q1
           go_wp2
           go_roundw
           case rel=>exact ⟨i+1,_,by omega,by go_num,rfl,by rw [HD9.out],HA9⟩
           case measure=>simp [intOf];omega
         | false =>
           cases hlx:gtS y.code x.code with
           | true =>
             have HLT:Hid (G.KeyO.lt (Fl.Flow.code x) (Fl.Flow.code y)=true):=Lib.hid ((gtS_iff _ _).1 hlx)
             unfold gtS ltS at hlx
             simp only [Bool.not_eq_true',Bool.or_eq_false_iff] at hlx
             obtain ⟨g1,g2⟩:=hlx
             go_wp2_with fail
             go_big_quiet (fail)
             clear g1 g2
             have HA2:=Lib.hid (HA.out.drewN nq)
             clear d0 d1 q0 q1 HA
             generalize wr.drewN nq=w2 at *
             obtain ⟨d0,d1⟩:=Fl.two (HAT.out.keep HA2.out.bel HAT.out.lt)
             obtain ⟨q0,q1⟩:=Fl.two ((HX3.out.keep HA2.out.bel HX3.out.lt).at0)
             have HBN:=Lib.hid ((Below.refl w2.heap.size w2).alloc (Nat.le_refl _) (.cells (Fl.encF.cs x).toArray 140))
             go_wp2_with (at_builtin;first
              | (refine wpList_append_el (E:=Fl.encF) rfl _ _ 33 140 rfl HI.out w4.heap.size _ x w2.heap.size (HA2.out.own.alloc _) rfl (el_new Fl.encF w2 x _) (by have:=HA2.out.bel.size;simp;omega) (mid_small HN.out hL) ?_;intro v8 w8 hr8 hb8 hg8;have HB8:Hid (Below w4.heap.size w4 w8):=Lib.hid ((HA2.out.bel.trans (HBN.out.mono HA2.out.bel.size)).trans hb8);have HO8:=Lib.hid hr8;have HB9:=Lib.hid ((Below.refl w8.heap.size w8).alloc (Nat.le_refl _) (.cells (Fl.encF.cs y).toArray 140));clear d0 d1 q0 q1 hr8 hb8 hg8;obtain ⟨d0,d1⟩:=Fl.two (HAT.out.keep HB8.out HAT.out.lt))
              | (refine wpList_append_el (E:=Fl.encF) rfl _ _ 33 140 rfl HI.out w4.heap.size _ y w8.heap.size (HO8.out.alloc _) rfl (el_new Fl.encF w8 y _) (by have:=HB8.out.size;simp;omega) (mid_small1 HN.out hL) ?_;intro v9 w9 hr9 hb9 hg9)
              | fail)
             have HA9:Hid (InsAt Fl.encF Fl.Flow.code 140 w4 w9 L x (i+1) v9):=Lib.hid ⟨by rw [HTK.out,G.midR_now HD.out HLT.out];exact hr9,(HB8.out.trans (HB9.out.mono HB8.out.size)).trans hb9,no_snoc HA2.out.no HY.out HYE.out⟩
             have HD9:Hid (G.doneR Fl.Flow.code (L.take (i+1)) x=true):=Lib.hid (by rw [HTK.out,G.doneR_snoc,HD.out,HLT.out];rfl)
             clear hr9 hb9 hg9 d0 d1
             go_wp2
             go_roundw
             case rel=>exact ⟨i+1,_,by omega,by go_num,rfl,by rw [HD9.out],HA9⟩
             case measure=>simp [intOf];omega
           | false =>
             have HLT:Hid (G.KeyO.lt (Fl.Flow.code x) (Fl.Flow.code y)=false):=Lib.hid (by
              cases hh:G.KeyO.lt (Fl.Flow.code x) (Fl.Flow.code y) with
              | false=>rfl
              | true=>rw [(gtS_iff y.code x.code).2 hh] at hlx;cases hlx)
             unfold gtS ltS at hlx
             simp only [Bool.not_eq_false'] at hlx
             go_wp2_with fail
             go_big_quiet (fail)
             clear hlx
             have HA2:=Lib.hid (HA.out.drewN nq)
             clear d0 d1 q0 q1 HA
             generalize wr.drewN nq=w2 at *
             obtain ⟨d0,d1⟩:=Fl.two (HAT.out.keep HA2.out.bel HAT.out.lt)
             obtain ⟨q0,q1⟩:=Fl.two ((HX3.out.keep HA2.out.bel HX3.out.lt).at0)
             have HBN:=Lib.hid ((Below.refl w2.heap.size w2).alloc (Nat.le_refl _) (.cells (Fl.encF.cs y).toArray 140))
             go_wp2_with (at_builtin;refine wpList_append_el (E:=Fl.encF) rfl _ _ 33 140 rfl HI.out w4.heap.size _ y w2.heap.size (HA2.out.own.alloc _) rfl (el_new Fl.encF w2 y _) (by have:=HA2.out.bel.size;simp;omega) (mid_small HN.out hL) ?_;intro v9 w9 hr9 hb9 hg9)
             have HA9:Hid (InsAt Fl.encF Fl.Flow.code 140 w4 w9 L x (i+1) v9):=Lib.hid ⟨by rw [HTK.out,G.midR_not HD.out HLT.out];exact hr9,(HA2.out.bel.trans (HBN.out.mono HA2.out.bel.size)).trans hb9,no_snoc HA2.out.no HY.out HYE.out⟩
             have HD9:Hid (G.doneR Fl.Flow.code (L.take (i+1)) x=false):=Lib.hid (by rw [HTK.out,G.doneR_snoc,HD.out];first | rfl | (rw [HLT.out];rfl))
             clear hr9 hb9 hg9 d0 d1 q0 q1
             go_wp2
             go_roundw
             case rel=>exact ⟨i+1,_,by omega,by go_num,rfl,by rw [HD9.out],HA9⟩
             case measure=>simp [intOf];omega
        ·have hTA:Hid (L.take i=L):=Lib.hid (List.take_of_length_le (by rw [HN.out];omega))
         rw [hTA.out]
         obtain ⟨D,hD⟩:∃ D,G.doneR Fl.Flow.code L x=D:=⟨_,rfl⟩
         have HD:=Lib.hid hD
         rw [hD]
         clear hD
         have HO:=Lib.hid HA.out.own
         rw [hTA.out] at HO
         cases D with
         | true =>
           go_wp2
           go_ret2
           rw [HRS.out]
           exact ⟨_,rfl,fun h=>absurd rfl h,fun _=>⟨_,by rw [←G.midR_end HD.out];exact row_base HO.out HB3.out.size⟩,HB3.out.trans (HA.out.bel.mono HB3.out.size)⟩
         | false =>
           obtain ⟨q0,q1⟩:=Fl.two ((HX3.out.keep HA.out.bel HX3.out.lt).at0)
           have HBN:=Lib.hid ((Below.refl wr.heap.size wr).alloc (Nat.le_refl _) (.cells (Fl.encF.cs x).toArray 140))
           go_wp2_with (at_builtin;refine wpList_append_el (E:=Fl.encF) rfl _ _ 33 140 rfl HI.out w4.heap.size _ x wr.heap.size (HO.out.alloc _) rfl (el_new Fl.encF wr x _) (by have:=HA.out.bel.size;simp;omega) (mid_small0 HN.out hL) ?_;intro v9 w9 hr9 hb9 hg9)
           have HO9:=Lib.hid hr9
           have HB9:=Lib.hid ((HA.out.bel.trans (HBN.out.mono HA.out.bel.size)).trans hb9)
           clear hr9 hb9 hg9 q0 q1
           go_wp2
           go_ret2
           rw [HRS.out]
           exact ⟨_,rfl,fun h=>absurd rfl h,fun _=>⟨_,by rw [←G.midR_last HD.out];exact row_base HO9.out HB3.out.size⟩,HB3.out.trans (HB9.out.mono HB3.out.size)⟩
     ·have hkz:(x.kind != 1)=true:=by simp [hk]
      have HKK:Hid (decide (x.kind≠1)=true):=Lib.hid (by simp [hk])
      clear hk
      go_wp2_with fail
      refine (HOF.out _ HV2.out).mono ?_
      rintro en w3 ⟨v3,rfl,⟨p3,c3,rfl,_,hm3,_⟩,hb3⟩
      rw [HMM.out] at hm3 ⊢
      have HB3:=Lib.hid (HB2.out.trans (hb3.mono HB2.out.size))
      have HX3:=Lib.hid (HX2.out.kept hb3)
      have HV3:=Lib.hid (HV2.out.keep hb3)
      have HC:=Lib.hid (els_keep HC2.out hb3)
      clear hb3 HX2 HV2 HB2 HC2 HOF q0 q1
      by_cases hm0:0 < m
      ·have hmp:decide ((0:Int) < (m:Int))=true:=decide_eq_true (by omega)
       have hmq:decide (0 < m)=true:=decide_eq_true hm0
       have HRS:Hid (N=7):=Lib.hid (by rw [HNE.out,HKK.out,decide_eq_true hm0];rfl)
       go_wp2
       go_ret2
       rw [HRS.out]
       exact ⟨_,rfl,fun _=>rfl,fun h=>absurd h (by decide),HB3.out⟩
      ·have hmp:decide ((0:Int) < (m:Int))=false:=decide_eq_false (by omega)
       have hmq:decide (0 < m)=false:=decide_eq_false hm0
       have HMZ:Hid (decide (0 < m)=false):=Lib.hid (decide_eq_false hm0)
       clear hm0
       by_cases h60:60≤n
       ·have HRS:Hid (N=4):=Lib.hid (by rw [HNE.out];simp only [HKK.out,HMZ.out,Bool.and_false,Bool.or_self,Bool.false_eq_true,Bool.true_eq_false,if_false];exact if_pos h60)
        go_wp2
        go_ret2
        rw [HRS.out]
        exact ⟨_,rfl,fun _=>rfl,fun h=>absurd h (by decide),HB3.out⟩
       ·have HRS:Hid (N=0):=Lib.hid (by rw [HNE.out];simp only [HKK.out,HMZ.out,Bool.and_false,Bool.or_self,Bool.false_eq_true,Bool.true_eq_false,if_false];exact if_neg h60)
        have HST:Hid (InsAt Fl.encF Fl.Flow.code 140 w3 w3 L x 0 (.slice none 0 0)):=Lib.hid ⟨World.ownsRow_nil _ _ _ _,Below.refl _ _,fun j y _ hy=>HNO.out j y hy⟩
        go_wp2
        go_loopw [8,9,10] (fun s6 s7 s8 wr=>∃ (i:Nat) (v6:Value),i≤n∧s8=.int .i64 (i:Int)∧v6=s6∧s7=.bool (G.doneR Fl.Flow.code (L.take i) x)∧Hid (InsAt Fl.encF Fl.Flow.code 140 w3 wr L x i v6)) (fun _ _ s8 _=>n - (intOf s8).toNat)
        case atStart=>exact ⟨0,_,Nat.zero_le _,rfl,rfl,rfl,HST⟩
        case round =>
         obtain ⟨i,v6,hi,rfl,rfl,rfl,HA⟩:=hrel
         by_cases hlt:i < n
         ·obtain ⟨y,hy⟩:∃ y,L[i]?=some y:=⟨_,List.getElem?_eq_getElem (by rw [HN.out];exact hlt)⟩
          obtain ⟨b,o,rfl,hat⟩:=HC.out i y hy
          obtain ⟨d0,d1⟩:=Fl.two (hat.keep HA.out.bel hat.lt)
          obtain ⟨q0,q1⟩:=Fl.two ((HX3.out.keep HA.out.bel HX3.out.lt).at0)
          have HY:=Lib.hid hy
          have HAT:=Lib.hid hat
          have HTK:Hid (L.take (i+1)=L.take i++[y]):=Lib.hid (by rw [List.take_succ_eq_append_getElem (by rw [HN.out];exact hlt),(List.getElem?_eq_some_iff.1 hy).2])
          obtain ⟨D,hD⟩:∃ D,G.doneR Fl.Flow.code (L.take i) x=D:=⟨_,rfl⟩
          have HD:=Lib.hid hD
          rw [hD]
          clear hy hat hD
          have HYE:=Lib.hid (HNO.out i y HY.out)
          cases D with
          | true =>
            go_wp2_with fail
            go_big_quiet (fail)
            have HA2:=Lib.hid (HA.out.drewN nq)
            clear d0 d1 q0 q1 HA
            generalize wr.drewN nq=w2 at *
            obtain ⟨d0,d1⟩:=Fl.two (HAT.out.keep HA2.out.bel HAT.out.lt)
            obtain ⟨q0,q1⟩:=Fl.two ((HX3.out.keep HA2.out.bel HX3.out.lt).at0)
            have HBN:=Lib.hid ((Below.refl w2.heap.size w2).alloc (Nat.le_refl _) (.cells (Fl.encF.cs y).toArray 140))
            go_wp2_with (at_builtin;refine wpList_append_el (E:=Fl.encF) rfl _ _ 33 140 rfl HI.out w3.heap.size _ y w2.heap.size (HA2.out.own.alloc _) rfl (el_new Fl.encF w2 y _) (by have:=HA2.out.bel.size;simp;omega) (mid_small HN.out hL) ?_;intro v9 w9 hr9 hb9 hg9)
            have HA9:Hid (InsAt Fl.encF Fl.Flow.code 140 w3 w9 L x (i+1) v9):=Lib.hid ⟨by rw [HTK.out,G.midR_there y HD.out];exact hr9,(HA2.out.bel.trans (HBN.out.mono HA2.out.bel.size)).trans hb9,no_snoc HA2.out.no HY.out HYE.out⟩
            have HD9:Hid (G.doneR Fl.Flow.code (L.take (i+1)) x=true):=Lib.hid (by rw [HTK.out,G.doneR_snoc,HD.out];first | rfl | (rw [HLT.out];rfl))
            clear hr9 hb9 hg9 d0 d1 q0 q1
            go_wp2
            go_roundw
            case rel=>exact ⟨i+1,_,by omega,by go_num,rfl,by rw [HD9.out],HA9⟩
            case measure=>simp [intOf];omega
          | false =>
            cases hlx:gtS y.code x.code with
            | true =>
              have HLT:Hid (G.KeyO.lt (Fl.Flow.code x) (Fl.Flow.code y)=true):=Lib.hid ((gtS_iff _ _).1 hlx)
              unfold gtS ltS at hlx
              simp only [Bool.not_eq_true',Bool.or_eq_false_iff] at hlx
              obtain ⟨g1,g2⟩:=hlx
              go_wp2_with fail
              go_big_quiet (fail)
              clear g1 g2
              have HA2:=Lib.hid (HA.out.drewN nq)
              clear d0 d1 q0 q1 HA
              generalize wr.drewN nq=w2 at *
              obtain ⟨d0,d1⟩:=Fl.two (HAT.out.keep HA2.out.bel HAT.out.lt)
              obtain ⟨q0,q1⟩:=Fl.two ((HX3.out.keep HA2.out.bel HX3.out.lt).at0)
              have HBN:=Lib.hid ((Below.refl w2.heap.size w2).alloc (Nat.le_refl _) (.cells (Fl.encF.cs x).toArray 140))
              go_wp2_with (at_builtin;first
               | (refine wpList_append_el (E:=Fl.encF) rfl _ _ 33 140 rfl HI.out w3.heap.size _ x w2.heap.size (HA2.out.own.alloc _) rfl (el_new Fl.encF w2 x _) (by have:=HA2.out.bel.size;simp;omega) (mid_small HN.out hL) ?_;intro v8 w8 hr8 hb8 hg8;have HB8:Hid (Below w3.heap.size w3 w8):=Lib.hid ((HA2.out.bel.trans (HBN.out.mono HA2.out.bel.size)).trans hb8);have HO8:=Lib.hid hr8;have HB9:=Lib.hid ((Below.refl w8.heap.size w8).alloc (Nat.le_refl _) (.cells (Fl.encF.cs y).toArray 140));clear d0 d1 q0 q1 hr8 hb8 hg8;obtain ⟨d0,d1⟩:=Fl.two (HAT.out.keep HB8.out HAT.out.lt))
               | (refine wpList_append_el (E:=Fl.encF) rfl _ _ 33 140 rfl HI.out w3.heap.size _ y w8.heap.size (HO8.out.alloc _) rfl (el_new Fl.encF w8 y _) (by have:=HB8.out.size;simp;omega) (mid_small1 HN.out hL) ?_;intro v9 w9 hr9 hb9 hg9)
               | fail)
              have HA9:Hid (InsAt Fl.encF Fl.Flow.code 140 w3 w9 L x (i+1) v9):=Lib.hid ⟨by rw [HTK.out,G.midR_now HD.out HLT.out];exact hr9,(HB8.out.trans (HB9.out.mono HB8.out.size)).trans hb9,no_snoc HA2.out.no HY.out HYE.out⟩
              have HD9:Hid (G.doneR Fl.Flow.code (L.take (i+1)) x=true):=Lib.hid (by rw [HTK.out,G.doneR_snoc,HD.out,HLT.out];rfl)
              clear hr9 hb9 hg9 d0 d1
              go_wp2
              go_roundw
              case rel=>exact ⟨i+1,_,by omega,by go_num,rfl,by rw [HD9.out],HA9⟩
              case measure=>simp [intOf];omega
            | false =>
              have HLT:Hid (G.KeyO.lt (Fl.Flow.code x) (Fl.Flow.code y)=false):=Lib.hid (by
               cases hh:G.KeyO.lt (Fl.Flow.code x) (Fl.Flow.code y) with
               | false=>rfl
               | true=>rw [(gtS_iff y.code x.code).2 hh] at hlx;cases hlx)
              unfold gtS ltS at hlx
              simp only [Bool.not_eq_false'] at hlx
              go_wp2_with fail
              go_big_quiet (fail)
              clear hlx
              have HA2:=Lib.hid (HA.out.drewN nq)
              clear d0 d1 q0 q1 HA
              generalize wr.drewN nq=w2 at *
              obtain ⟨d0,d1⟩:=Fl.two (HAT.out.keep HA2.out.bel HAT.out.lt)
              obtain ⟨q0,q1⟩:=Fl.two ((HX3.out.keep HA2.out.bel HX3.out.lt).at0)
              have HBN:=Lib.hid ((Below.refl w2.heap.size w2).alloc (Nat.le_refl _) (.cells (Fl.encF.cs y).toArray 140))
              go_wp2_with (at_builtin;refine wpList_append_el (E:=Fl.encF) rfl _ _ 33 140 rfl HI.out w3.heap.size _ y w2.heap.size (HA2.out.own.alloc _) rfl (el_new Fl.encF w2 y _) (by have:=HA2.out.bel.size;simp;omega) (mid_small HN.out hL) ?_;intro v9 w9 hr9 hb9 hg9)
              have HA9:Hid (InsAt Fl.encF Fl.Flow.code 140 w3 w9 L x (i+1) v9):=Lib.hid ⟨by rw [HTK.out,G.midR_not HD.out HLT.out];exact hr9,(HA2.out.bel.trans (HBN.out.mono HA2.out.bel.size)).trans hb9,no_snoc HA2.out.no HY.out HYE.out⟩
              have HD9:Hid (G.doneR Fl.Flow.code (L.take (i+1)) x=false):=Lib.hid (by rw [HTK.out,G.doneR_snoc,HD.out];first | rfl | (rw [HLT.out];rfl))
              clear hr9 hb9 hg9 d0 d1 q0 q1
              go_wp2
              go_roundw
              case rel=>exact ⟨i+1,_,by omega,by go_num,rfl,by rw [HD9.out],HA9⟩
              case measure=>simp [intOf];omega
         ·have hTA:Hid (L.take i=L):=Lib.hid (List.take_of_length_le (by rw [HN.out];omega))
          rw [hTA.out]
          obtain ⟨D,hD⟩:∃ D,G.doneR Fl.Flow.code L x=D:=⟨_,rfl⟩
          have HD:=Lib.hid hD
          rw [hD]
          clear hD
          have HO:=Lib.hid HA.out.own
          rw [hTA.out] at HO
          cases D with
          | true =>
            go_wp2
            go_ret2
            rw [HRS.out]
            exact ⟨_,rfl,fun h=>absurd rfl h,fun _=>⟨_,by rw [←G.midR_end HD.out];exact row_base HO.out HB3.out.size⟩,HB3.out.trans (HA.out.bel.mono HB3.out.size)⟩
          | false =>
            obtain ⟨q0,q1⟩:=Fl.two ((HX3.out.keep HA.out.bel HX3.out.lt).at0)
            have HBN:=Lib.hid ((Below.refl wr.heap.size wr).alloc (Nat.le_refl _) (.cells (Fl.encF.cs x).toArray 140))
            go_wp2_with (at_builtin;refine wpList_append_el (E:=Fl.encF) rfl _ _ 33 140 rfl HI.out w3.heap.size _ x wr.heap.size (HO.out.alloc _) rfl (el_new Fl.encF wr x _) (by have:=HA.out.bel.size;simp;omega) (mid_small0 HN.out hL) ?_;intro v9 w9 hr9 hb9 hg9)
            have HO9:=Lib.hid hr9
            have HB9:=Lib.hid ((HA.out.bel.trans (HBN.out.mono HA.out.bel.size)).trans hb9)
            clear hr9 hb9 hg9 q0 q1
            go_wp2
            go_ret2
            rw [HRS.out]
            exact ⟨_,rfl,fun h=>absurd rfl h,fun _=>⟨_,by rw [←G.midR_last HD.out];exact row_base HO9.out HB3.out.size⟩,HB3.out.trans (HB9.out.mono HB3.out.size)⟩
end Go.Proofs.YtfhhihamndbcnaaGreatDoor.Un
end
