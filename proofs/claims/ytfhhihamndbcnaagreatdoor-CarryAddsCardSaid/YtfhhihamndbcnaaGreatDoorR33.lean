/- EntDoc UnitFind FlowDocWords -/
import Derived.Test.YtfhhihamndbcnaaGreatDoorR09
import Derived.Test.YtfhhihamndbcnaaGreatDoorR14
import Derived.Test.YtfhhihamndbcnaaGreatDoorR26
import Derived.Test.YtfhhihamndbcnaaGreatDoorR27
section
namespace Go.Proofs.YtfhhihamndbcnaaGreatDoor.Un
open Go.RowKit
theorem info_rent:InfoE Tryz.prog 34 232 encE :=
 InfoE.of (z:=.agg #[.string ⟨#[]⟩,.string ⟨#[]⟩]) (n:=32) Tryz.underlying34 (by kernel_rfl) (by kernel_rfl) (by decide)
structure InsAt {α κ:Type} [G.KeyO κ] (E:Enc α) (key:α→κ) (e:TypeId) (W0 wr:World) (L:List α) (x:α) (i:Nat) (s6:Value):Prop where
 own:wr.ownsRow W0.heap.size e E.k s6 (G.midR key (L.take i) x).length (flat E (G.midR key (L.take i) x))
 bel:Below W0.heap.size W0 wr
 no:∀ (j:Nat) (y:α),j < i→L[j]?=some y→key y≠key x
theorem InsAt.drewN {α κ:Type} [G.KeyO κ] {E:Enc α} {key:α→κ} {e:TypeId} {W0 wr:World} {L:List α} {x:α} {i:Nat} {s6:Value} (h:InsAt E key e W0 wr L x i s6) (q:Nat):InsAt E key e W0 (wr.drewN q) L x i s6:=⟨h.own,below_drewN h.bel q,h.no⟩
theorem no_snoc {α κ:Type} {key:α→κ} {L:List α} {k:κ} {i:Nat} {y:α} (h:∀ (j:Nat) (z:α),j < i→L[j]?=some z→key z≠k) (hy:L[i]?=some y) (he:key y≠k):∀ (j:Nat) (z:α),j < i+1→L[j]?=some z→key z≠k:=fun j z hj hz=>by
 rcases Nat.lt_or_ge j i with h' | h'
 ·exact h j z h' hz
 ·obtain rfl:j=i:=by omega
  rw [hy] at hz;cases hz;exact he
theorem mid_small {α κ:Type} [G.KeyO κ] {key:α→κ} {L:List α} {x:α} {i n:Nat} (hn:L.length=n) (h:n≤1000):(G.midR key (L.take i) x).length≤1000000:=by
 have h1:=G.midR_length (key:=key) (L.take i) x
 rw [List.length_take] at h1
 omega
theorem mid_small1 {α κ:Type} [G.KeyO κ] {key:α→κ} {L:List α} {x:α} {i n:Nat} (hn:L.length=n) (h:n≤1000):(G.midR key (L.take i) x++[x]).length≤1000000:=by
 have h1:=G.midR_length (key:=key) (L.take i) x
 rw [List.length_take] at h1
 rw [List.length_append,List.length_singleton]
 omega
theorem mid_small0 {α κ:Type} [G.KeyO κ] {key:α→κ} {L:List α} {x:α} {n:Nat} (hn:L.length=n) (h:n≤1000):(G.midR key L x).length≤1000000:=by
 have h1:=G.midR_length (key:=key) L x
 omega
theorem entE_there {L:List Ent} {x y:Ent} {i:Nat} (hy:L[i]?=some y) (he:y.code=x.code):entE L x=7:=by
 unfold entE
 rw [if_pos]
 have hm:=List.mem_of_getElem? hy
 cases hf:G.findK Ent.code L x.code with
 | some z=>rfl
 | none=>exact absurd he (G.findK_no hf y hm)
theorem entE_not {L:List Ent} {x:Ent} (h:∀ (j:Nat) (y:Ent),L[j]?=some y→y.code≠x.code):entE L x=if 60≤L.length then 4 else 0:=by
 unfold entE
 rw [if_neg]
 rw [G.findK_none (fun y hy e=>by
  obtain ⟨j,hj,rfl⟩:=List.getElem_of_mem hy
  exact h j _ (List.getElem?_eq_getElem hj) e)]
 simp
def ListTold {α:Type} (E:Enc α) (w:World) (v:Value) (L:List α) (n:Int) (en:Ending) (w':World):Prop:=∃ v',en=.returned (.tuple #[v',.int .i64 n])∧(n≠0→v'=v)∧(n=0→∃ t,w'.ownsRow w.heap.size t E.k v' L.length (flat E L))∧Below w.heap.size w w'
set_option maxRecDepth 100000 in
set_option maxHeartbeats 4000000 in
theorem rent_any (v:Value) (L:List Ent) (x:Ent) (w:World) (h:ElsV encE w v L) (hL:L.length≤1000) :
 Calls Tryz.prog 128 #[v,aggE x] w (ListTold encE w v (G.insR Ent.code L x) (entE L x)):=by
 have hB0:=(Below.refl w.heap.size w).alloc (Nat.le_refl _) (.cells #[.string x.code,.string x.cur] 232)
 have hX0:=BoxE.new encE w x 232
 have hV0:=h.keep hB0
 have hS0:(w.alloc (.cells #[.string x.code,.string x.cur] 232)).heap.size=w.heap.size+1:=World.size_alloc ..
 obtain ⟨W0,hW0⟩:∃ W0,w.alloc (.cells #[.string x.code,.string x.cur] 232)=W0:=⟨_,rfl⟩
 have hX0':BoxE encE W0 w.heap.size 232 x:=by rw [←hW0];exact hX0
 rw [hW0] at hB0 hV0 hS0
 have HB0:=Lib.hid hB0
 have HX0:=Lib.hid hX0'
 have HV0:=Lib.hid hV0
 have HS0:=Lib.hid hS0
 obtain ⟨p,c,e,hcap,hm,_,hc⟩:=hV0
 subst e
 obtain ⟨n,hn⟩:∃ n,L.length=n:=⟨_,rfl⟩
 rw [hn] at hcap hL HV0 ⊢
 obtain ⟨N,hN⟩:∃ N,entE L x=N:=⟨_,rfl⟩
 rw [hN]
 have HC:=Lib.hid hc
 have HN:=Lib.hid hn
 have HE:=Lib.hid hN
 have HI:=Lib.hid info_rent
 unfold maxLen at hm
 have HST:Hid (InsAt encE Ent.code 232 W0 W0 L x 0 (.slice none 0 0)):=Lib.hid ⟨World.ownsRow_nil _ _ _ _,Below.refl _ _,fun j y hj=>absurd hj (Nat.not_lt_zero _)⟩
 clear h hB0 hX0 hX0' hS0 hc hn hN
 go_enter Tryz.func128,Tryz.ntmps128
 go_wp2
 clear hW0
 go_loopw [6,7,8] (fun s6 s7 s8 wr=>∃ (i:Nat) (v6:Value),i≤n∧s8=.int .i64 (i:Int)∧v6=s6∧s7=.bool (G.doneR Ent.code (L.take i) x)∧Hid (InsAt encE Ent.code 232 W0 wr L x i v6)) (fun _ _ s8 _=>n - (intOf s8).toNat)
 case atStart=>exact ⟨0,_,Nat.zero_le _,rfl,rfl,rfl,HST⟩
 case round =>
  obtain ⟨i,v6,hi,rfl,rfl,rfl,HA⟩:=hrel
  by_cases hlt:i < n
  ·obtain ⟨y,hy⟩:∃ y,L[i]?=some y:=⟨_,List.getElem?_eq_getElem (by rw [HN.out];exact hlt)⟩
   obtain ⟨b,o,rfl,hat⟩:=HC.out i y hy
   obtain ⟨d0,d1⟩:=ent2 (hat.keep HA.out.bel hat.lt)
   obtain ⟨q0,q1⟩:=ent2 ((HX0.out.keep HA.out.bel HX0.out.lt).at0)
   have HY:=Lib.hid hy
   have HAT:=Lib.hid hat
   have HTK:Hid (L.take (i+1)=L.take i++[y]):=Lib.hid (by rw [List.take_succ_eq_append_getElem (by rw [HN.out];exact hlt),(List.getElem?_eq_some_iff.1 hy).2])
   obtain ⟨D,hD⟩:∃ D,G.doneR Ent.code (L.take i) x=D:=⟨_,rfl⟩
   have HD:=Lib.hid hD
   rw [hD]
   clear hy hat hD
   cases hye:(y.code.toList==x.code.toList) with
   | true =>
     have HYE:=Lib.hid ((Lib.bytes_beq_iff y.code x.code).1 hye)
     have HRS:Hid (N=7):=Lib.hid (by rw [←HE.out];exact entE_there HY.out HYE.out)
     go_wp2_with fail
     go_big_quiet (fail)
     clear d0 d1 q0 q1 hye
     go_wp2
     go_ret2
     have HQ:=HA.out.drewN nq
     rw [HRS.out]
     exact ⟨_,rfl,fun _=>rfl,fun h=>absurd h (by decide),HB0.out.trans (HQ.bel.mono HB0.out.size)⟩
   | false =>
     have HYE:=Lib.hid ((Lib.bytes_beq_false_iff y.code x.code).1 hye)
     go_wp2_with fail
     go_big_quiet (fail)
     clear hye
     have HA1:=Lib.hid (HA.out.drewN nq)
     clear d0 d1 q0 q1 HA
     generalize wr.drewN nq=wq at *
     obtain ⟨d0,d1⟩:=ent2 (HAT.out.keep HA1.out.bel HAT.out.lt)
     obtain ⟨q0,q1⟩:=ent2 ((HX0.out.keep HA1.out.bel HX0.out.lt).at0)
     cases D with
     | true =>
       go_wp2_with fail
       go_big_quiet (fail)
       have HA2:=Lib.hid (HA1.out.drewN nq)
       clear d0 d1 q0 q1 HA1
       generalize wq.drewN nq=w2 at *
       obtain ⟨d0,d1⟩:=ent2 (HAT.out.keep HA2.out.bel HAT.out.lt)
       obtain ⟨q0,q1⟩:=ent2 ((HX0.out.keep HA2.out.bel HX0.out.lt).at0)
       have HB3:=Lib.hid ((Below.refl w2.heap.size w2).alloc (Nat.le_refl _) (.cells (encE.cs y).toArray 232))
       go_wp2_with (at_builtin;refine wpList_append_el (E:=encE) rfl _ _ 34 232 rfl HI.out W0.heap.size _ y w2.heap.size (HA2.out.own.alloc _) rfl (el_new encE w2 y _) (by have:=HA2.out.bel.size;simp;omega) (mid_small HN.out hL) ?_;intro v9 w9 hr9 hb9 hg9)
       have HA9:Hid (InsAt encE Ent.code 232 W0 w9 L x (i+1) v9):=Lib.hid ⟨by rw [HTK.out,G.midR_there y HD.out];exact hr9,(HA2.out.bel.trans (HB3.out.mono HA2.out.bel.size)).trans hb9,no_snoc HA2.out.no HY.out HYE.out⟩
       have HD9:Hid (G.doneR Ent.code (L.take (i+1)) x=true):=Lib.hid (by rw [HTK.out,G.doneR_snoc,HD.out];first | rfl | (rw [HLT.out];rfl))
       clear hr9 hb9 hg9 d0 d1 q0 q1
       go_wp2
       go_roundw
       case rel=>exact ⟨i+1,_,by omega,by go_num,rfl,by rw [HD9.out],HA9⟩
       case measure=>simp [intOf];omega
     | false =>
       cases hlx:gtS y.code x.code with
       | true =>
         have HLT:Hid (G.KeyO.lt (Ent.code x) (Ent.code y)=true):=Lib.hid ((gtS_iff _ _).1 hlx)
         unfold gtS ltS at hlx
         simp only [Bool.not_eq_true',Bool.or_eq_false_iff] at hlx
         obtain ⟨g1,g2⟩:=hlx
         go_wp2_with fail
         go_big_quiet (fail)
         clear g1 g2
         have HA2:=Lib.hid (HA1.out.drewN nq)
         clear d0 d1 q0 q1 HA1
         generalize wq.drewN nq=w2 at *
         obtain ⟨d0,d1⟩:=ent2 (HAT.out.keep HA2.out.bel HAT.out.lt)
         obtain ⟨q0,q1⟩:=ent2 ((HX0.out.keep HA2.out.bel HX0.out.lt).at0)
         have HB3:=Lib.hid ((Below.refl w2.heap.size w2).alloc (Nat.le_refl _) (.cells (encE.cs x).toArray 232))
         go_wp2_with (at_builtin;first
          | (refine wpList_append_el (E:=encE) rfl _ _ 34 232 rfl HI.out W0.heap.size _ x w2.heap.size (HA2.out.own.alloc _) rfl (el_new encE w2 x _) (by have:=HA2.out.bel.size;simp;omega) (mid_small HN.out hL) ?_;intro v8 w8 hr8 hb8 hg8;have HB8:Hid (Below W0.heap.size W0 w8):=Lib.hid ((HA2.out.bel.trans (HB3.out.mono HA2.out.bel.size)).trans hb8);have HO8:=Lib.hid hr8;have HB9:=Lib.hid ((Below.refl w8.heap.size w8).alloc (Nat.le_refl _) (.cells (encE.cs y).toArray 232));clear d0 d1 q0 q1 hr8 hb8 hg8;obtain ⟨d0,d1⟩:=ent2 (HAT.out.keep HB8.out HAT.out.lt))
          | (refine wpList_append_el (E:=encE) rfl _ _ 34 232 rfl HI.out W0.heap.size _ y w8.heap.size (HO8.out.alloc _) rfl (el_new encE w8 y _) (by have:=HB8.out.size;simp;omega) (mid_small1 HN.out hL) ?_;intro v9 w9 hr9 hb9 hg9)
          | fail)
         have HA9:Hid (InsAt encE Ent.code 232 W0 w9 L x (i+1) v9):=Lib.hid ⟨by rw [HTK.out,G.midR_now HD.out HLT.out];exact hr9,(HB8.out.trans (HB9.out.mono HB8.out.size)).trans hb9,no_snoc HA2.out.no HY.out HYE.out⟩
         have HD9:Hid (G.doneR Ent.code (L.take (i+1)) x=true):=Lib.hid (by rw [HTK.out,G.doneR_snoc,HD.out,HLT.out];rfl)
         clear hr9 hb9 hg9 d0 d1
         go_wp2
         go_roundw
         case rel=>exact ⟨i+1,_,by omega,by go_num,rfl,by rw [HD9.out],HA9⟩
         case measure=>simp [intOf];omega
       | false =>
         have HLT:Hid (G.KeyO.lt (Ent.code x) (Ent.code y)=false):=Lib.hid (by
          cases hh:G.KeyO.lt (Ent.code x) (Ent.code y) with
          | false=>rfl
          | true=>rw [(gtS_iff y.code x.code).2 hh] at hlx;cases hlx)
         unfold gtS ltS at hlx
         simp only [Bool.not_eq_false'] at hlx
         go_wp2_with fail
         go_big_quiet (fail)
         clear hlx
         have HA2:=Lib.hid (HA1.out.drewN nq)
         clear d0 d1 q0 q1 HA1
         generalize wq.drewN nq=w2 at *
         obtain ⟨d0,d1⟩:=ent2 (HAT.out.keep HA2.out.bel HAT.out.lt)
         obtain ⟨q0,q1⟩:=ent2 ((HX0.out.keep HA2.out.bel HX0.out.lt).at0)
         have HB3:=Lib.hid ((Below.refl w2.heap.size w2).alloc (Nat.le_refl _) (.cells (encE.cs y).toArray 232))
         go_wp2_with (at_builtin;refine wpList_append_el (E:=encE) rfl _ _ 34 232 rfl HI.out W0.heap.size _ y w2.heap.size (HA2.out.own.alloc _) rfl (el_new encE w2 y _) (by have:=HA2.out.bel.size;simp;omega) (mid_small HN.out hL) ?_;intro v9 w9 hr9 hb9 hg9)
         have HA9:Hid (InsAt encE Ent.code 232 W0 w9 L x (i+1) v9):=Lib.hid ⟨by rw [HTK.out,G.midR_not HD.out HLT.out];exact hr9,(HA2.out.bel.trans (HB3.out.mono HA2.out.bel.size)).trans hb9,no_snoc HA2.out.no HY.out HYE.out⟩
         have HD9:Hid (G.doneR Ent.code (L.take (i+1)) x=false):=Lib.hid (by rw [HTK.out,G.doneR_snoc,HD.out];first | rfl | (rw [HLT.out];rfl))
         clear hr9 hb9 hg9 d0 d1 q0 q1
         go_wp2
         go_roundw
         case rel=>exact ⟨i+1,_,by omega,by go_num,rfl,by rw [HD9.out],HA9⟩
         case measure=>simp [intOf];omega
  ·have hnf:Hid (∀ (j:Nat) (y:Ent),L[j]?=some y→y.code≠x.code):=Lib.hid (fun j y hy=>HA.out.no j y (by have:=(List.getElem?_eq_some_iff.1 hy).1;rw [HN.out] at this;omega) hy)
   have hNN:Hid (N=if 60≤n then 4 else 0):=Lib.hid (by rw [←HE.out,entE_not hnf.out,HN.out])
   have hTA:Hid (L.take i=L):=Lib.hid (List.take_of_length_le (by rw [HN.out];omega))
   rw [hTA.out]
   obtain ⟨D,hD⟩:∃ D,G.doneR Ent.code L x=D:=⟨_,rfl⟩
   have HD:=Lib.hid hD
   rw [hD]
   clear hD
   by_cases h60:60≤n
   ·have HRS:Hid (N=4):=Lib.hid (by rw [hNN.out,if_pos h60])
    go_wp2
    go_ret2
    rw [HRS.out]
    exact ⟨_,rfl,fun _=>rfl,fun h=>absurd h (by decide),HB0.out.trans (HA.out.bel.mono HB0.out.size)⟩
   ·have HRS:Hid (N=0):=Lib.hid (by rw [hNN.out,if_neg h60])
    have HO:=Lib.hid HA.out.own
    rw [hTA.out] at HO
    cases D with
    | true =>
      go_wp2
      go_ret2
      rw [HRS.out]
      exact ⟨_,rfl,fun h=>absurd rfl h,fun _=>⟨_,by rw [←G.midR_end HD.out];exact row_base HO.out HB0.out.size⟩,HB0.out.trans (HA.out.bel.mono HB0.out.size)⟩
    | false =>
      obtain ⟨q0,q1⟩:=ent2 ((HX0.out.keep HA.out.bel HX0.out.lt).at0)
      have HB3:=Lib.hid ((Below.refl wr.heap.size wr).alloc (Nat.le_refl _) (.cells (encE.cs x).toArray 232))
      go_wp2_with (at_builtin;refine wpList_append_el (E:=encE) rfl _ _ 34 232 rfl HI.out W0.heap.size _ x wr.heap.size (HO.out.alloc _) rfl (el_new encE wr x _) (by have:=HA.out.bel.size;simp;omega) (mid_small0 HN.out hL) ?_;intro v9 w9 hr9 hb9 hg9)
      have HO9:=Lib.hid hr9
      have HB9:=Lib.hid ((HA.out.bel.trans (HB3.out.mono HA.out.bel.size)).trans hb9)
      clear hr9 hb9 hg9 q0 q1
      go_wp2
      go_ret2
      rw [HRS.out]
      exact ⟨_,rfl,fun h=>absurd rfl h,fun _=>⟨_,by rw [←G.midR_last HD.out];exact row_base HO9.out HB0.out.size⟩,HB0.out.trans (HB9.out.mono HB0.out.size)⟩
end Go.Proofs.YtfhhihamndbcnaaGreatDoor.Un
end
section
namespace Go.Proofs.YtfhhihamndbcnaaGreatDoor.Un
open Go.RowKit
def curO (o:Option Ent):ByteArray:=(o.map Ent.cur).getD emp
theorem G.findK_first {α κ:Type} [DecidableEq κ] {key:α→κ} {L:List α} {c:κ} {i:Nat} {x:α} (hb:∀ (j:Nat) (y:α),j < i→L[j]?=some y→key y≠c) (hx:L[i]?=some x) (h:key x=c):G.findK key L c=some x:=by
 induction L generalizing i with
 | nil=>simp at hx
 | cons a L ih =>
   cases i with
   | zero =>
     simp at hx;subst hx
     simp only [G.findK];rw [if_pos h]
   | succ i =>
     simp only [G.findK]
     rw [if_neg (hb 0 a (Nat.succ_pos _) rfl)]
     refine ih (i:=i) (fun j y hj hy=>hb (j+1) y (by omega) (by simpa using hy)) (by simpa using hx)
theorem G.findK_nowhere {α κ:Type} [DecidableEq κ] {key:α→κ} {L:List α} {c:κ} (h:∀ (j:Nat) (y:α),L[j]?=some y→key y≠c):G.findK key L c=none :=
 G.findK_none fun y hy e=>by
  obtain ⟨j,hj,rfl⟩:=List.getElem_of_mem hy
  exact h j _ (List.getElem?_eq_getElem hj) e
set_option maxRecDepth 100000 in
set_option maxHeartbeats 4000000 in
theorem find_any (c f e l:Value) (M:Mast) (code:ByteArray) (w:World) (h:MastIn w c f e l M) :
 Calls Tryz.prog 182 #[aggM c f e l M,.string code] w fun en w'=>en=.returned (.tuple #[.string (curO (G.findK Ent.code M.ents code)),.bool (G.findK Ent.code M.ents code).isSome])∧Below w.heap.size w w':=by
 have HB0:=Lib.hid ((Below.refl w.heap.size w).alloc (Nat.le_refl _) (.cells (cellsM c f e l M) 31))
 have HN0:=Lib.hid (nine_new w c f e l M 31)
 have HM0:=Lib.hid (h.keep HB0.out)
 obtain ⟨r,hr⟩:∃ r,G.findK Ent.code M.ents code=r:=⟨_,rfl⟩
 rw [hr]
 have HR:=Lib.hid hr
 obtain ⟨R,hR⟩:∃ R,curO r=R:=⟨_,rfl⟩
 obtain ⟨S,hS⟩:∃ S,r.isSome=S:=⟨_,rfl⟩
 rw [hR,hS]
 have HRV:=Lib.hid hR
 have HSV:=Lib.hid hS
 clear hr hR hS h
 obtain ⟨W,hW⟩:∃ W,w.alloc (.cells (cellsM c f e l M) 31)=W:=⟨_,rfl⟩
 rw [hW] at HB0 HN0 HM0
 obtain ⟨pl,cl,el,hlc,hlm,_,hlv⟩:=HM0.out.ents
 subst el
 obtain ⟨n,hn⟩:∃ n,M.ents.length=n:=⟨_,rfl⟩
 rw [hn] at hlc
 have HN:=Lib.hid hn
 have HLV:=Lib.hid hlv
 unfold maxLen at hlm
 rw [hn] at HN0 HM0 ⊢
 rw [hn] at hW
 clear hlv hn
 obtain ⟨c0,c1,c2,c3,c4,c5,c6,c7,c8⟩:=HN0.out
 go_enter Tryz.func182,Tryz.ntmps182
 go_wp2
 clear c0 c1 c2 c3 c4 c5 c6 c7 c8 hW
 go_loopw [11] (fun si wr=>∃ i:Nat,i≤n∧si=.int .i64 (i:Int)∧Hid (Below W.heap.size W wr)∧Hid (∀ (j:Nat) (y:Ent),j < i→M.ents[j]?=some y→Ent.code y≠code)) (fun si _=>n - (intOf si).toNat)
 case atStart=>exact ⟨0,Nat.zero_le _,rfl,Lib.hid (Below.refl _ _),Lib.hid fun j y hj=>absurd hj (Nat.not_lt_zero _)⟩
 case round =>
  obtain ⟨i,hi,rfl,HBR,HNO⟩:=hrel
  by_cases hlt:i < n
  ·obtain ⟨x,hx⟩:∃ x,M.ents[i]?=some x:=⟨_,List.getElem?_eq_getElem (by rw [HN.out];exact hlt)⟩
   obtain ⟨b,o,rfl,hat⟩:=HLV.out i x hx
   obtain ⟨d0,d1⟩:=ent2 (hat.keep HBR.out hat.lt)
   have HX:=Lib.hid hx
   clear hx hat
   have HBX:=Lib.hid ((Below.refl wr.heap.size wr).alloc (Nat.le_refl _) (.cells #[.string x.code,.string x.cur] 68))
   obtain ⟨q0,q1⟩:=ent2 (BoxE.new encE wr x 68).at0
   cases h1:(x.code.toList==code.toList) with
   | false =>
     have HNE:=Lib.hid ((Lib.bytes_beq_false_iff x.code code).1 h1)
     go_wp2
     go_roundw
     case rel=>exact ⟨i+1,by omega,by go_num,Lib.hid (HBR.out.trans (HBX.out.mono HBR.out.size)),Lib.hid (no_snoc HNO.out HX.out HNE.out)⟩
     case measure=>simp [intOf];omega
   | true =>
     have HEQ:=Lib.hid ((Lib.bytes_beq_iff x.code code).1 h1)
     have hres:Hid (r=some x):=Lib.hid (by rw [←HR.out];exact G.findK_first HNO.out HX.out HEQ.out)
     go_wp2
     go_ret2
     rw [←HRV.out,←HSV.out,hres.out]
     exact ⟨rfl,HB0.out.trans ((HBR.out.trans (HBX.out.mono HBR.out.size)).mono HB0.out.size)⟩
  ·have hres:Hid (r=none):=Lib.hid (by
    rw [←HR.out]
    refine G.findK_nowhere fun j y hy=>HNO.out j y ?_ hy
    have:=(List.getElem?_eq_some_iff.1 hy).1
    rw [HN.out] at this;omega)
   go_wp2
   go_ret2
   rw [←HRV.out,←HSV.out,hres.out]
   exact ⟨rfl,HB0.out.trans (HBR.out.mono HB0.out.size)⟩
end Go.Proofs.YtfhhihamndbcnaaGreatDoor.Un
end
section
namespace Go.Proofs.YtfhhihamndbcnaaGreatDoor.Fl
open Go.RowKit
theorem kinds_any (w:World):Calls Tryz.prog 159 #[] w fun e w'=>e=.returned (.slice (some ⟨w.heap.size,0,none⟩) 5 5)∧w'=w.alloc (.cells #[.string tOpen,.string tMove,.string tFx,.string tScope,.string tClose] 9):=by
 go_enter Tryz.func159,Tryz.ntmps159
 go_wp2
 go_ret
 exact ⟨rfl,rfl⟩
theorem strs_three2 (w:World) (o:Obj) (x y z:ByteArray) (t:TypeId):StrsV ((w.alloc o).alloc (.cells #[.string x,.string y,.string z] t)) (.slice (some ⟨w.heap.size+1,0,none⟩) 3 3) [x,y,z]:=by
 have:=strs_three (w.alloc o) x y z t
 rwa [World.size_alloc] at this
abbrev kindCells:Obj:=.cells #[.string tOpen,.string tMove,.string tFx,.string tScope,.string tClose] 9
theorem kind_cell (w:World) (n:Nat) (h:n < 5):(w.alloc kindCells).cell? ⟨w.heap.size,n,none⟩=some (.string (kindW (n:Int))):=by
 rw [cell_of_row _ w.heap.size n _ _ (0,0) (heap_alloc_new w _)]
 rcases (by omega:n=0∨n=1∨n=2∨n=3∨n=4) with rfl | rfl | rfl | rfl | rfl <;> rfl
set_option maxRecDepth 100000 in
set_option maxHeartbeats 8000000 in
theorem rwords_ok (co:ByteArray) (k:Nat) (w:World) (hk:k < 5) (h:rightF ⟨co,(k:Int)⟩=true):Calls Tryz.prog 126 #[aggL ⟨co,(k:Int)⟩] w (StrsTold w [tFlow,co,kindW (k:Int)]):=by
 have HR:=Lib.hid (rright_any ⟨co,(k:Int)⟩)
 rw [h] at HR
 have HB:=Lib.hid ((Below.refl w.heap.size w).alloc (Nat.le_refl _) (.cells #[.string co,.int .i64 (k:Int)] 140))
 have HX0:=Lib.hid (BoxE.new encF w ⟨co,(k:Int)⟩ 140)
 clear h
 obtain ⟨kw,hkw⟩:∃ kw,kindW (k:Int)=kw:=⟨_,rfl⟩
 rw [hkw]
 have HKW:=Lib.hid hkw
 clear hkw
 go_enter Tryz.func126,Tryz.ntmps126
 go_wp2_with fail
 refine (HR.out _).mono ?_
 rintro e w1 ⟨rfl,hb1⟩
 have HB1:=Lib.hid (HB.out.trans (hb1.mono HB.out.size))
 have hlt:w.heap.size < w1.heap.size:=by have:=hb1.size;simp at this;omega
 have HX1:=Lib.hid (HX0.out.keep hb1 (by simp))
 obtain ⟨c0,c1⟩:=box HX1.out
 simp only at c0 c1
 clear hb1
 go_wp2_with fail
 have hb2:=(Below.refl w1.heap.size w1).alloc (Nat.le_refl _) kindCells
 obtain ⟨d0,d1⟩:=box (HX1.out.keep hb2 hlt)
 simp only at d0 d1
 have HB2:=Lib.hid (HB1.out.trans (hb2.mono HB1.out.size))
 have hc:=kind_cell w1 k hk
 rw [HKW.out] at hc
 have hk5:(k:Int) < 5:=by omega
 clear hb2
 go_region_with (go_at_call 159;refine (kinds_any _).mono ?_;rintro e w' ⟨rfl,rfl⟩)
 all_goals
  go_wp2
  go_ret
  exact ⟨_,rfl,strs_three2 w1 kindCells tFlow co kw 9,below_drew' (HB2.out.alloc HB2.out.size _)⟩
set_option maxRecDepth 100000 in
set_option maxHeartbeats 4000000 in
theorem rwords_any (f:Flow) (w:World):Calls Tryz.prog 126 #[aggL f] w (StrsTold w (wordsF f)):=by
 cases h:rightF f with
 | false =>
   have HR:=Lib.hid (rright_any f)
   have HB:=Lib.hid ((Below.refl w.heap.size w).alloc (Nat.le_refl _) (.cells #[.string f.code,.int .i64 f.kind] 140))
   rw [h] at HR
   rw [words_nil h]
   clear h
   go_enter Tryz.func126,Tryz.ntmps126
   go_wp2_with fail
   refine (HR.out _).mono ?_
   rintro e w1 ⟨rfl,hb1⟩
   have HB1:=Lib.hid hb1
   clear hb1
   go_wp2
   go_ret
   exact ⟨_,rfl,StrsV.nil _,HB.out.trans (HB1.out.mono HB.out.size)⟩
 | true =>
   rw [words_of h]
   obtain ⟨co,k⟩:=f
   have hk:=(right_parts h).2
   simp only at hk ⊢
   obtain ⟨n,rfl⟩:∃ n:Nat,k=(n:Int):=⟨k.toNat,by omega⟩
   exact rwords_ok co n w (by omega) h
end Go.Proofs.YtfhhihamndbcnaaGreatDoor.Fl
end
