/- EntDoc FlowWords FlowParse LinDoc -/
import Derived.WalkLawsBesides
import Derived.Test.YthcpglnmhimepaaGreatDoorS10
import Derived.Test.YthcpglnmhimepaaGreatDoorS13
section
namespace Go.Proofs.YthcpglnmhimepaaGreatDoor.Un
open Go.RowKit
theorem info_rent:InfoE Tryz.prog 33 228 encE :=
 InfoE.of (z:=.agg #[.string ⟨#[]⟩,.string ⟨#[]⟩]) (n:=32) Tryz.underlying33 (by kernel_rfl) (by kernel_rfl) (by decide)
structure InsAt {α κ:Type} [G.KeyO κ] (E:Enc α) (key:α→κ) (e:TypeId) (W0 wr:World) (L:List α) (x:α) (i:Nat) (s6:Value):Prop where
 own:wr.ownsRow W0.heap.size e E.k s6 (G.midR key (L.take i) x).length (flat E (G.midR key (L.take i) x))
 bel:Below W0.heap.size W0 wr
 no:∀ (j:Nat) (y:α),j < i→L[j]?=some y→key y≠key x
theorem InsAt.drewN {α κ:Type} [G.KeyO κ] {E:Enc α} {key:α→κ} {e:TypeId} {W0 wr:World} {L:List α} {x:α} {i:Nat} {s6:Value} (h:InsAt E key e W0 wr L x i s6) (q:Nat):InsAt E key e W0 (wr.drewN q) L x i s6:=⟨h.own,below_drewN h.bel q,h.no⟩
theorem no_snoc {α κ:Type} {key:α→κ} {L:List α} {k:κ} {i:Nat} {y:α} (h:∀ (j:Nat) (z:α),j < i→L[j]?=some z→key z≠k) (hy:L[i]?=some y) (he:key y≠k):∀ (j:Nat) (z:α),j < i+1→L[j]?=some z→key z≠k:=fun j z hj hz=>by
 rcases Nat.lt_or_ge j i with h' | h'
 ·exact h j z h' hz
 ·obtain rfl:j=i:=by omega
  rw [hy] at hz;cases hz;exact he
theorem mid_small {α κ:Type} [G.KeyO κ] {key:α→κ} {L:List α} {x:α} {i n:Nat} (hn:L.length=n) (h:n≤1000):(G.midR key (L.take i) x).length≤1000000:=by
 have h1:=G.midR_length (key:=key) (L.take i) x
 rw [List.length_take] at h1
 omega
theorem mid_small1 {α κ:Type} [G.KeyO κ] {key:α→κ} {L:List α} {x:α} {i n:Nat} (hn:L.length=n) (h:n≤1000):(G.midR key (L.take i) x++[x]).length≤1000000:=by
 have h1:=G.midR_length (key:=key) (L.take i) x
 rw [List.length_take] at h1
 rw [List.length_append,List.length_singleton]
 omega
theorem mid_small0 {α κ:Type} [G.KeyO κ] {key:α→κ} {L:List α} {x:α} {n:Nat} (hn:L.length=n) (h:n≤1000):(G.midR key L x).length≤1000000:=by
 have h1:=G.midR_length (key:=key) L x
 omega
theorem entE_there {L:List Ent} {x y:Ent} {i:Nat} (hy:L[i]?=some y) (he:y.code=x.code):entE L x=7:=by
 unfold entE
 rw [if_pos]
 have hm:=List.mem_of_getElem? hy
 cases hf:G.findK Ent.code L x.code with
 | some z=>rfl
 | none=>exact absurd he (G.findK_no hf y hm)
theorem entE_not {L:List Ent} {x:Ent} (h:∀ (j:Nat) (y:Ent),L[j]?=some y→y.code≠x.code):entE L x=if 60≤L.length then 4 else 0:=by
 unfold entE
 rw [if_neg]
 rw [G.findK_none (fun y hy e=>by
  obtain ⟨j,hj,rfl⟩:=List.getElem_of_mem hy
  exact h j _ (List.getElem?_eq_getElem hj) e)]
 simp
def ListTold {α:Type} (E:Enc α) (w:World) (v:Value) (L:List α) (n:Int) (en:Ending) (w':World):Prop:=∃ v',en=.returned (.tuple #[v',.int .i64 n])∧(n≠0→v'=v)∧(n=0→∃ t,w'.ownsRow w.heap.size t E.k v' L.length (flat E L))∧Below w.heap.size w w'
set_option maxRecDepth 100000 in
set_option maxHeartbeats 4000000 in
theorem rent_any (v:Value) (L:List Ent) (x:Ent) (w:World) (h:ElsV encE w v L) (hL:L.length≤1000) :
 Calls Tryz.prog 120 #[v,aggE x] w (ListTold encE w v (G.insR Ent.code L x) (entE L x)):=by
 have hB0:=(Below.refl w.heap.size w).alloc (Nat.le_refl _) (.cells #[.string x.code,.string x.cur] 228)
 have hX0:=BoxE.new encE w x 228
 have hV0:=h.keep hB0
 have hS0:(w.alloc (.cells #[.string x.code,.string x.cur] 228)).heap.size=w.heap.size+1:=World.size_alloc ..
 obtain ⟨W0,hW0⟩:∃ W0,w.alloc (.cells #[.string x.code,.string x.cur] 228)=W0:=⟨_,rfl⟩
 have hX0':BoxE encE W0 w.heap.size 228 x:=by rw [←hW0];exact hX0
 rw [hW0] at hB0 hV0 hS0
 have HB0:=Lib.hid hB0
 have HX0:=Lib.hid hX0'
 have HV0:=Lib.hid hV0
 have HS0:=Lib.hid hS0
 obtain ⟨p,c,e,hcap,hm,_,hc⟩:=hV0
 subst e
 obtain ⟨n,hn⟩:∃ n,L.length=n:=⟨_,rfl⟩
 rw [hn] at hcap hL HV0 ⊢
 obtain ⟨N,hN⟩:∃ N,entE L x=N:=⟨_,rfl⟩
 rw [hN]
 have HC:=Lib.hid hc
 have HN:=Lib.hid hn
 have HE:=Lib.hid hN
 have HI:=Lib.hid info_rent
 unfold maxLen at hm
 have HST:Hid (InsAt encE Ent.code 228 W0 W0 L x 0 (.slice none 0 0)):=Lib.hid ⟨World.ownsRow_nil _ _ _ _,Below.refl _ _,fun j y hj=>absurd hj (Nat.not_lt_zero _)⟩
 clear h hB0 hX0 hX0' hS0 hc hn hN
 go_enter Tryz.func120,Tryz.ntmps120
 go_wp2
 clear hW0
 go_loopw [6,7,8] (fun s6 s7 s8 wr=>∃ (i:Nat) (v6:Value),i≤n∧s8=.int .i64 (i:Int)∧v6=s6∧s7=.bool (G.doneR Ent.code (L.take i) x)∧Hid (InsAt encE Ent.code 228 W0 wr L x i v6)) (fun _ _ s8 _=>n - (intOf s8).toNat)
 case atStart=>exact ⟨0,_,Nat.zero_le _,rfl,rfl,rfl,HST⟩
 case round =>
  obtain ⟨i,v6,hi,rfl,rfl,rfl,HA⟩:=hrel
  by_cases hlt:i < n
  ·obtain ⟨y,hy⟩:∃ y,L[i]?=some y:=⟨_,List.getElem?_eq_getElem (by rw [HN.out];exact hlt)⟩
   obtain ⟨b,o,rfl,hat⟩:=HC.out i y hy
   obtain ⟨d0,d1⟩:=ent2 (hat.keep HA.out.bel hat.lt)
   obtain ⟨q0,q1⟩:=ent2 ((HX0.out.keep HA.out.bel HX0.out.lt).at0)
   have HY:=Lib.hid hy
   have HAT:=Lib.hid hat
   have HTK:Hid (L.take (i+1)=L.take i++[y]):=Lib.hid (by rw [List.take_succ_eq_append_getElem (by rw [HN.out];exact hlt),(List.getElem?_eq_some_iff.1 hy).2])
   obtain ⟨D,hD⟩:∃ D,G.doneR Ent.code (L.take i) x=D:=⟨_,rfl⟩
   have HD:=Lib.hid hD
   rw [hD]
   clear hy hat hD
   cases hye:(y.code.toList==x.code.toList) with
   | true =>
     have HYE:=Lib.hid ((Lib.bytes_beq_iff y.code x.code).1 hye)
     have HRS:Hid (N=7):=Lib.hid (by rw [←HE.out];exact entE_there HY.out HYE.out)
     go_wp2_with fail
     go_big_quiet (fail)
     clear d0 d1 q0 q1 hye
     go_wp2
     go_ret2
     have HQ:=HA.out.drewN nq
     rw [HRS.out]
     exact ⟨_,rfl,fun _=>rfl,fun h=>absurd h (by decide),HB0.out.trans (HQ.bel.mono HB0.out.size)⟩
   | false =>
     have HYE:=Lib.hid ((Lib.bytes_beq_false_iff y.code x.code).1 hye)
     go_wp2_with fail
     go_big_quiet (fail)
     clear hye
     have HA1:=Lib.hid (HA.out.drewN nq)
     clear d0 d1 q0 q1 HA
     generalize wr.drewN nq=wq at *
     obtain ⟨d0,d1⟩:=ent2 (HAT.out.keep HA1.out.bel HAT.out.lt)
     obtain ⟨q0,q1⟩:=ent2 ((HX0.out.keep HA1.out.bel HX0.out.lt).at0)
     cases D with
     | true =>
       go_wp2_with fail
       go_big_quiet (fail)
       have HA2:=Lib.hid (HA1.out.drewN nq)
       clear d0 d1 q0 q1 HA1
       generalize wq.drewN nq=w2 at *
       obtain ⟨d0,d1⟩:=ent2 (HAT.out.keep HA2.out.bel HAT.out.lt)
       obtain ⟨q0,q1⟩:=ent2 ((HX0.out.keep HA2.out.bel HX0.out.lt).at0)
       have HB3:=Lib.hid ((Below.refl w2.heap.size w2).alloc (Nat.le_refl _) (.cells (encE.cs y).toArray 228))
       go_wp2_with (at_builtin;refine wpList_append_el (E:=encE) rfl _ _ 33 228 rfl HI.out W0.heap.size _ y w2.heap.size (HA2.out.own.alloc _) rfl (el_new encE w2 y _) (by have:=HA2.out.bel.size;simp;omega) (mid_small HN.out hL) ?_;intro v9 w9 hr9 hb9 hg9)
       have HA9:Hid (InsAt encE Ent.code 228 W0 w9 L x (i+1) v9):=Lib.hid ⟨by rw [HTK.out,G.midR_there y HD.out];exact hr9,(HA2.out.bel.trans (HB3.out.mono HA2.out.bel.size)).trans hb9,no_snoc HA2.out.no HY.out HYE.out⟩
       have HD9:Hid (G.doneR Ent.code (L.take (i+1)) x=true):=Lib.hid (by rw [HTK.out,G.doneR_snoc,HD.out];first | rfl | (rw [HLT.out];rfl))
       clear hr9 hb9 hg9 d0 d1 q0 q1
       go_wp2
       go_roundw
       case rel=>exact ⟨i+1,_,by omega,by go_num,rfl,by rw [HD9.out],HA9⟩
       case measure=>simp [intOf];omega
     | false =>
       cases hlx:gtS y.code x.code with
       | true =>
         have HLT:Hid (G.KeyO.lt (Ent.code x) (Ent.code y)=true):=Lib.hid ((gtS_iff _ _).1 hlx)
         unfold gtS ltS at hlx
         simp only [Bool.not_eq_true',Bool.or_eq_false_iff] at hlx
         obtain ⟨g1,g2⟩:=hlx
         go_wp2_with fail
         go_big_quiet (fail)
         clear g1 g2
         have HA2:=Lib.hid (HA1.out.drewN nq)
         clear d0 d1 q0 q1 HA1
         generalize wq.drewN nq=w2 at *
         obtain ⟨d0,d1⟩:=ent2 (HAT.out.keep HA2.out.bel HAT.out.lt)
         obtain ⟨q0,q1⟩:=ent2 ((HX0.out.keep HA2.out.bel HX0.out.lt).at0)
         have HB3:=Lib.hid ((Below.refl w2.heap.size w2).alloc (Nat.le_refl _) (.cells (encE.cs x).toArray 228))
         go_wp2_with (at_builtin;first
          | (refine wpList_append_el (E:=encE) rfl _ _ 33 228 rfl HI.out W0.heap.size _ x w2.heap.size (HA2.out.own.alloc _) rfl (el_new encE w2 x _) (by have:=HA2.out.bel.size;simp;omega) (mid_small HN.out hL) ?_;intro v8 w8 hr8 hb8 hg8;have HB8:Hid (Below W0.heap.size W0 w8):=Lib.hid ((HA2.out.bel.trans (HB3.out.mono HA2.out.bel.size)).trans hb8);have HO8:=Lib.hid hr8;have HB9:=Lib.hid ((Below.refl w8.heap.size w8).alloc (Nat.le_refl _) (.cells (encE.cs y).toArray 228));clear d0 d1 q0 q1 hr8 hb8 hg8;obtain ⟨d0,d1⟩:=ent2 (HAT.out.keep HB8.out HAT.out.lt))
          | (refine wpList_append_el (E:=encE) rfl _ _ 33 228 rfl HI.out W0.heap.size _ y w8.heap.size (HO8.out.alloc _) rfl (el_new encE w8 y _) (by have:=HB8.out.size;simp;omega) (mid_small1 HN.out hL) ?_;intro v9 w9 hr9 hb9 hg9)
          | fail)
         have HA9:Hid (InsAt encE Ent.code 228 W0 w9 L x (i+1) v9):=Lib.hid ⟨by rw [HTK.out,G.midR_now HD.out HLT.out];exact hr9,(HB8.out.trans (HB9.out.mono HB8.out.size)).trans hb9,no_snoc HA2.out.no HY.out HYE.out⟩
         have HD9:Hid (G.doneR Ent.code (L.take (i+1)) x=true):=Lib.hid (by rw [HTK.out,G.doneR_snoc,HD.out,HLT.out];rfl)
         clear hr9 hb9 hg9 d0 d1
         go_wp2
         go_roundw
         case rel=>exact ⟨i+1,_,by omega,by go_num,rfl,by rw [HD9.out],HA9⟩
         case measure=>simp [intOf];omega
       | false =>
         have HLT:Hid (G.KeyO.lt (Ent.code x) (Ent.code y)=false):=Lib.hid (by
          cases hh:G.KeyO.lt (Ent.code x) (Ent.code y) with
          | false=>rfl
          | true=>rw [(gtS_iff y.code x.code).2 hh] at hlx;cases hlx)
         unfold gtS ltS at hlx
         simp only [Bool.not_eq_false'] at hlx
         go_wp2_with fail
         go_big_quiet (fail)
         clear hlx
         have HA2:=Lib.hid (HA1.out.drewN nq)
         clear d0 d1 q0 q1 HA1
         generalize wq.drewN nq=w2 at *
         obtain ⟨d0,d1⟩:=ent2 (HAT.out.keep HA2.out.bel HAT.out.lt)
         obtain ⟨q0,q1⟩:=ent2 ((HX0.out.keep HA2.out.bel HX0.out.lt).at0)
         have HB3:=Lib.hid ((Below.refl w2.heap.size w2).alloc (Nat.le_refl _) (.cells (encE.cs y).toArray 228))
         go_wp2_with (at_builtin;refine wpList_append_el (E:=encE) rfl _ _ 33 228 rfl HI.out W0.heap.size _ y w2.heap.size (HA2.out.own.alloc _) rfl (el_new encE w2 y _) (by have:=HA2.out.bel.size;simp;omega) (mid_small HN.out hL) ?_;intro v9 w9 hr9 hb9 hg9)
         have HA9:Hid (InsAt encE Ent.code 228 W0 w9 L x (i+1) v9):=Lib.hid ⟨by rw [HTK.out,G.midR_not HD.out HLT.out];exact hr9,(HA2.out.bel.trans (HB3.out.mono HA2.out.bel.size)).trans hb9,no_snoc HA2.out.no HY.out HYE.out⟩
         have HD9:Hid (G.doneR Ent.code (L.take (i+1)) x=false):=Lib.hid (by rw [HTK.out,G.doneR_snoc,HD.out];first | rfl | (rw [HLT.out];rfl))
         clear hr9 hb9 hg9 d0 d1 q0 q1
         go_wp2
         go_roundw
         case rel=>exact ⟨i+1,_,by omega,by go_num,rfl,by rw [HD9.out],HA9⟩
         case measure=>simp [intOf];omega
  ·have hnf:Hid (∀ (j:Nat) (y:Ent),L[j]?=some y→y.code≠x.code):=Lib.hid (fun j y hy=>HA.out.no j y (by have:=(List.getElem?_eq_some_iff.1 hy).1;rw [HN.out] at this;omega) hy)
   have hNN:Hid (N=if 60≤n then 4 else 0):=Lib.hid (by rw [←HE.out,entE_not hnf.out,HN.out])
   have hTA:Hid (L.take i=L):=Lib.hid (List.take_of_length_le (by rw [HN.out];omega))
   rw [hTA.out]
   obtain ⟨D,hD⟩:∃ D,G.doneR Ent.code L x=D:=⟨_,rfl⟩
   have HD:=Lib.hid hD
   rw [hD]
   clear hD
   by_cases h60:60≤n
   ·have HRS:Hid (N=4):=Lib.hid (by rw [hNN.out,if_pos h60])
    go_wp2
    go_ret2
    rw [HRS.out]
    exact ⟨_,rfl,fun _=>rfl,fun h=>absurd h (by decide),HB0.out.trans (HA.out.bel.mono HB0.out.size)⟩
   ·have HRS:Hid (N=0):=Lib.hid (by rw [hNN.out,if_neg h60])
    have HO:=Lib.hid HA.out.own
    rw [hTA.out] at HO
    cases D with
    | true =>
      go_wp2
      go_ret2
      rw [HRS.out]
      exact ⟨_,rfl,fun h=>absurd rfl h,fun _=>⟨_,by rw [←G.midR_end HD.out];exact row_base HO.out HB0.out.size⟩,HB0.out.trans (HA.out.bel.mono HB0.out.size)⟩
    | false =>
      obtain ⟨q0,q1⟩:=ent2 ((HX0.out.keep HA.out.bel HX0.out.lt).at0)
      have HB3:=Lib.hid ((Below.refl wr.heap.size wr).alloc (Nat.le_refl _) (.cells (encE.cs x).toArray 228))
      go_wp2_with (at_builtin;refine wpList_append_el (E:=encE) rfl _ _ 33 228 rfl HI.out W0.heap.size _ x wr.heap.size (HO.out.alloc _) rfl (el_new encE wr x _) (by have:=HA.out.bel.size;simp;omega) (mid_small0 HN.out hL) ?_;intro v9 w9 hr9 hb9 hg9)
      have HO9:=Lib.hid hr9
      have HB9:=Lib.hid ((HA.out.bel.trans (HB3.out.mono HA.out.bel.size)).trans hb9)
      clear hr9 hb9 hg9 q0 q1
      go_wp2
      go_ret2
      rw [HRS.out]
      exact ⟨_,rfl,fun h=>absurd rfl h,fun _=>⟨_,by rw [←G.midR_last HD.out];exact row_base HO9.out HB0.out.size⟩,HB0.out.trans (HB9.out.mono HB0.out.size)⟩
end Go.Proofs.YthcpglnmhimepaaGreatDoor.Un
end
section
namespace Go.Proofs.YthcpglnmhimepaaGreatDoor.Fl
open Go.RowKit
structure Laid (w:World):Prop where
 g0:w.cell? ⟨2,0,none⟩=some (.string tOpen)
 g1:w.cell? ⟨2,1,none⟩=some (.string tMove)
 g2:w.cell? ⟨2,2,none⟩=some (.string tFx)
 g3:w.cell? ⟨2,3,none⟩=some (.string tScope)
 g4:w.cell? ⟨2,4,none⟩=some (.string tClose)
theorem Laid.below {w w':World} {B:Nat} (h:Laid w) (hb:Below B w w') (hB:w.heap.size≤B):Laid w' :=
 have lt:=Nat.lt_of_lt_of_le (World.block_lt_of_cell? w _ h.g0) hB
 ⟨(hb.cell (p:=⟨_,0,none⟩) lt).trans h.g0,(hb.cell (p:=⟨_,1,none⟩) lt).trans h.g1,(hb.cell (p:=⟨_,2,none⟩) lt).trans h.g2,(hb.cell (p:=⟨_,3,none⟩) lt).trans h.g3,(hb.cell (p:=⟨_,4,none⟩) lt).trans h.g4⟩
theorem Laid.drew {w:World} (h:Laid w):Laid w.drew:=⟨h.g0,h.g1,h.g2,h.g3,h.g4⟩
theorem at_arr0 (w:World):(Instr.index 267 (.agg #[.string tOpen,.string tMove,.string tFx,.string tScope,.string tClose]) (.int .i64 0)).run Tryz.prog w=.ok (.string tOpen) w:=by kernel_rfl
theorem at_arr1 (w:World):(Instr.index 267 (.agg #[.string tOpen,.string tMove,.string tFx,.string tScope,.string tClose]) (.int .i64 1)).run Tryz.prog w=.ok (.string tMove) w:=by kernel_rfl
theorem at_arr2 (w:World):(Instr.index 267 (.agg #[.string tOpen,.string tMove,.string tFx,.string tScope,.string tClose]) (.int .i64 2)).run Tryz.prog w=.ok (.string tFx) w:=by kernel_rfl
theorem at_arr3 (w:World):(Instr.index 267 (.agg #[.string tOpen,.string tMove,.string tFx,.string tScope,.string tClose]) (.int .i64 3)).run Tryz.prog w=.ok (.string tScope) w:=by kernel_rfl
theorem at_arr4 (w:World):(Instr.index 267 (.agg #[.string tOpen,.string tMove,.string tFx,.string tScope,.string tClose]) (.int .i64 4)).run Tryz.prog w=.ok (.string tClose) w:=by kernel_rfl
theorem ret_int {a b:Int} (h:a=b):Ending.returned (.int .i64 a)=.returned (.int .i64 b):=by rw [h]
theorem kindO_no {s:ByteArray} (h0:tOpen≠s) (h1:tMove≠s) (h2:tFx≠s) (h3:tScope≠s) (h4:tClose≠s):kindO s=-1:=by
 unfold kindO
 rw [if_neg (fun e=>h0 e.symm),if_neg (fun e=>h1 e.symm),if_neg (fun e=>h2 e.symm),if_neg (fun e=>h3 e.symm),if_neg (fun e=>h4 e.symm)]
set_option maxRecDepth 100000 in
set_option maxHeartbeats 4000000 in
theorem kindOf_any (s:ByteArray) (w:World) (hL:Laid w) :
 Calls Tryz.prog 144 #[.string s] w fun e w'=>e=.returned (.int .i64 (kindO s))∧w=w':=by
 obtain ⟨g0,g1,g2,g3,g4⟩:=hL
 obtain ⟨r,hr⟩:∃ r,kindO s=r:=⟨_,rfl⟩
 rw [hr]
 have HR:=Lib.hid hr
 clear hr
 obtain ⟨A,hA⟩:∃ A,tOpen=A:=⟨_,rfl⟩
 obtain ⟨B,hB⟩:∃ B,tMove=B:=⟨_,rfl⟩
 obtain ⟨C,hC⟩:∃ C,tFx=C:=⟨_,rfl⟩
 obtain ⟨D,hD⟩:∃ D,tScope=D:=⟨_,rfl⟩
 obtain ⟨E,hE⟩:∃ E,tClose=E:=⟨_,rfl⟩
 have i0:=at_arr0
 have i1:=at_arr1
 have i2:=at_arr2
 have i3:=at_arr3
 have i4:=at_arr4
 rw [hA] at g0
 rw [hB] at g1
 rw [hC] at g2
 rw [hD] at g3
 rw [hE] at g4
 rw [hA,hB,hC,hD,hE] at i0 i1 i2 i3 i4
 have HA:=Lib.hid hA
 have HBB:=Lib.hid hB
 have HCC:=Lib.hid hC
 have HDD:=Lib.hid hD
 have HEE:=Lib.hid hE
 clear hA hB hC hD hE
 cases hs0:(A.toList==s.toList) with
 | true =>
   have HS:=Lib.hid ((Lib.bytes_beq_iff A s).1 hs0)
   go_enter Tryz.func144,Tryz.ntmps144
   go_wp2
   refine wp_loop_rounds 1 ?_
   rw [rounds_succ]
   go_wp2
   go_ret
   exact ⟨ret_int (by rw [←HR.out,←HS.out,←HA.out];decide),rfl⟩
 | false =>
   have HS:=Lib.hid ((Lib.bytes_beq_false_iff A s).1 hs0)
   cases hs1:(B.toList==s.toList) with
   | true =>
     have HS1:=Lib.hid ((Lib.bytes_beq_iff B s).1 hs1)
     go_enter Tryz.func144,Tryz.ntmps144
     go_wp2
     refine wp_loop_rounds 2 ?_
     rw [rounds_succ]
     go_wp2
     rw [rounds_succ]
     go_wp2
     go_ret
     exact ⟨ret_int (by rw [←HR.out,←HS1.out,←HBB.out];decide),rfl⟩
   | false =>
     have HS1:=Lib.hid ((Lib.bytes_beq_false_iff B s).1 hs1)
     cases hs2:(C.toList==s.toList) with
     | true =>
       have HS2:=Lib.hid ((Lib.bytes_beq_iff C s).1 hs2)
       go_enter Tryz.func144,Tryz.ntmps144
       go_wp2
       refine wp_loop_rounds 3 ?_
       rw [rounds_succ]
       go_wp2
       rw [rounds_succ]
       go_wp2
       rw [rounds_succ]
       go_wp2
       go_ret
       exact ⟨ret_int (by rw [←HR.out,←HS2.out,←HCC.out];decide),rfl⟩
     | false =>
       have HS2:=Lib.hid ((Lib.bytes_beq_false_iff C s).1 hs2)
       cases hs3:(D.toList==s.toList) with
       | true =>
         have HS3:=Lib.hid ((Lib.bytes_beq_iff D s).1 hs3)
         go_enter Tryz.func144,Tryz.ntmps144
         go_wp2
         refine wp_loop_rounds 4 ?_
         rw [rounds_succ]
         go_wp2
         rw [rounds_succ]
         go_wp2
         rw [rounds_succ]
         go_wp2
         rw [rounds_succ]
         go_wp2
         go_ret
         exact ⟨ret_int (by rw [←HR.out,←HS3.out,←HDD.out];decide),rfl⟩
       | false =>
         have HS3:=Lib.hid ((Lib.bytes_beq_false_iff D s).1 hs3)
         cases hs4:(E.toList==s.toList) with
         | true =>
           have HS4:=Lib.hid ((Lib.bytes_beq_iff E s).1 hs4)
           go_enter Tryz.func144,Tryz.ntmps144
           go_wp2
           refine wp_loop_rounds 5 ?_
           rw [rounds_succ]
           go_wp2
           rw [rounds_succ]
           go_wp2
           rw [rounds_succ]
           go_wp2
           rw [rounds_succ]
           go_wp2
           rw [rounds_succ]
           go_wp2
           go_ret
           exact ⟨ret_int (by rw [←HR.out,←HS4.out,←HEE.out];decide),rfl⟩
         | false =>
           have HS4:=Lib.hid ((Lib.bytes_beq_false_iff E s).1 hs4)
           have hres:Hid (r=-1):=Lib.hid (by
            rw [←HR.out]
            exact kindO_no (by rw [HA.out];exact HS.out) (by rw [HBB.out];exact HS1.out) (by rw [HCC.out];exact HS2.out) (by rw [HDD.out];exact HS3.out) (by rw [HEE.out];exact HS4.out))
           go_enter Tryz.func144,Tryz.ntmps144
           go_wp2
           refine wp_loop_rounds 6 ?_
           rw [rounds_succ]
           go_wp2
           rw [rounds_succ]
           go_wp2
           rw [rounds_succ]
           go_wp2
           rw [rounds_succ]
           go_wp2
           rw [rounds_succ]
           go_wp2
           rw [rounds_succ]
           go_wp2
           go_ret
           exact ⟨ret_int hres.out.symm,rfl⟩
theorem strs_three (w:World) (x y z:ByteArray) (t:TypeId):StrsV (w.alloc (.cells #[.string x,.string y,.string z] t)) (.slice (some ⟨w.heap.size,0,none⟩) 3 3) [x,y,z] :=
 strs_new w [x,y,z] t (by show 3≤_;unfold maxLen;omega)
theorem below_drewN' {B:Nat} {a w:World} (h:Below B a w) (n:Nat):Below B a (w.drewN n):=⟨h.os,h.tape,h.output,h.size,h.block⟩
theorem below_drew' {B:Nat} {a w:World} (h:Below B a w):Below B a w.drew:=⟨h.os,h.tape,h.output,h.size,h.block⟩
end Go.Proofs.YthcpglnmhimepaaGreatDoor.Fl
end
section
namespace Go.Proofs.YthcpglnmhimepaaGreatDoor.Fl
open Go.RowKit
theorem cell_on {w w':World} {p:Addr} {v:Value} (hb:Below w.heap.size w w') (h:w.cell? p=some v):w'.cell? p=some v:=(hb.cell (World.block_lt_of_cell? w _ h)).trans h
abbrev zc:Array Value:=#[.string ⟨#[]⟩,.int .i64 0]
theorem list_flow:tFlow.toList=[102,108,111,119]:=by rw [ByteArray.toList_eq];rfl
theorem beq_flow (x:ByteArray):(x.toList==[102,108,111,119])=decide (x=tFlow):=by
 rw [←list_flow]
 cases h:(x.toList==tFlow.toList) with
 | true=>rw [decide_eq_true ((Lib.bytes_beq_iff x tFlow).1 h)]
 | false=>rw [decide_eq_false ((Lib.bytes_beq_false_iff x tFlow).1 h)]
def ParseAt (w wx:World) (A:Flow):Prop:=BoxE encF wx (w.heap.size+1) 70 A∧Below (w.heap.size+1) (w.alloc (.cells zc 70)) wx
set_option maxRecDepth 100000 in
set_option maxHeartbeats 8000000 in
theorem parse_any (v:Value) (ws:List ByteArray) (w:World) (h:StrsV w v ws) (hL:Laid w) :
 Calls Tryz.prog 103 #[v] w fun e w'=>e=.returned (.tuple #[aggL (parseF ws).1,.int .i64 (parseF ws).2])∧Below w.heap.size w w':=by
 have HV:=Lib.hid h
 obtain ⟨p,c,rfl,hcap,hm,hc⟩:=h
 have HB0:=Lib.hid ((Below.refl w.heap.size w).alloc (Nat.le_refl _) (.cells zc 70))
 have HX0:=Lib.hid (BoxE.new encF w zeroF 70)
 by_cases h3:ws.length=3
 ·match ws,h3 with
  | [x0,x1,x2],_ =>
    obtain ⟨b,o,rfl,k0'⟩:=hc 0 x0 rfl
    obtain ⟨b',o',e',k1⟩:=hc 1 x1 rfl
    cases e'
    obtain ⟨b',o',e',k2⟩:=hc 2 x2 rfl
    cases e'
    have k0:w.cell? ⟨b,o,none⟩=some (.string x0):=k0'
    have j0:=cell_on HB0.out k0
    have j1:=cell_on HB0.out k1
    have j2:=cell_on HB0.out k2
    have HNB:Hid (b≠w.heap.size):=Lib.hid (by have:=World.block_lt_of_cell? w _ k0;simp at this;omega)
    have HLT:Hid (b < w.heap.size):=Lib.hid (World.block_lt_of_cell? w _ k0)
    have HL0:=Lib.hid (hL.below HB0.out (Nat.le_refl _))
    rw [parse_three]
    obtain ⟨A,hA⟩:∃ A:Flow,(⟨x1,kindO x2⟩:Flow)=A:=⟨_,rfl⟩
    rw [hA]
    have HA:=Lib.hid hA
    clear hc hA k0' k0 k1 k2 hL hm hcap HV
    show Calls _ _ #[.slice (some ⟨b,o,none⟩) 3 c] _ _
    obtain ⟨W0,hW0⟩:∃ W0,w.alloc (.cells zc 70)=W0:=⟨_,rfl⟩
    have HSZ:Hid (W0.heap.size=w.heap.size+1):=Lib.hid (by rw [←hW0];simp)
    have HX1:Hid (BoxE encF W0 w.heap.size 70 zeroF):=Lib.hid (by rw [←hW0];exact HX0.out)
    rw [hW0] at HB0 HL0 j0 j1 j2
    clear HX0
    cases hx0:(x0.toList==[102,108,111,119]) with
    | false =>
      have hne:¬ (x0=tFlow∧rightF A=true):=fun e=>by
       rw [beq_flow,e.1] at hx0;simp at hx0
      rw [if_neg hne]
      have hxn:(!x0.toList==[102,108,111,119])=true:=by rw [hx0];rfl
      clear hne hx0
      go_enter Tryz.func103,Tryz.ntmps103
      go_wp2_with (refine wpList_store_el (E:=encF) rfl 70 (.tmp 2) (.tmp 14) rfl w.heap.size zeroF zeroF 70 rfl rfl HX1.out (by kernel_rfl) ?_;intro w8 hb8 hg8)
      have HF:=Lib.hid (HB0.out.grown hg8 HB0.out.size (fun j hj=>by cases hj;exact Nat.le_refl _))
      obtain ⟨t0,t1⟩:=box hb8
      clear hb8 hg8
      refine bodyPost_ret (v:=.tuple #[aggL zeroF,.int .i64 5]) (by simp [results,Tryz.results103,go_sem,t0,t1]) rfl ⟨rfl,HF.out⟩
    | true =>
      have hx:x0=tFlow:=by rw [beq_flow] at hx0;exact of_decide_eq_true hx0
      have hxn:(!x0.toList==[102,108,111,119])=false:=by rw [hx0];rfl
      have HE:Hid (∀ r,rightF A=r→(if x0=tFlow∧rightF A=true then (A,(0:Int)) else (zeroF,5))=if r=true then (A,0) else (zeroF,5)):=Lib.hid (fun r hr=>by
       rw [hr];cases r <;> simp [hx])
      obtain ⟨R,hR⟩:∃ R,(if x0=tFlow∧rightF A=true then (A,(0:Int)) else (zeroF,5))=R:=⟨_,rfl⟩
      rw [hR] at HE ⊢
      clear hR hx hx0
      go_enter Tryz.func103,Tryz.ntmps103
      go_upto_region 3 with (fail)
      have HW0:=Lib.hid hW0
      clear hW0 j0
      go_cut [4] (fun s4 wx=>s4=.pointer (some ⟨w.heap.size+1,0,none⟩)∧ParseAt w wx A)
      case first =>
       have hba:=(Below.refl W0.heap.size W0).alloc (Nat.le_refl _) (.cells zc 70)
       have n1:=cell_on hba j1
       have n2:=cell_on hba j2
       have y1:W0.drew.cell? ⟨b,o+1,none⟩=some (.string x1):=j1
       have y2:W0.drew.cell? ⟨b,o+2,none⟩=some (.string x2):=j2
       have z1:(W0.alloc (.cells zc 70)).drew.cell? ⟨b,o+1,none⟩=some (.string x1):=n1
       have z2:(W0.alloc (.cells zc 70)).drew.cell? ⟨b,o+2,none⟩=some (.string x2):=n2
       have HLa:=Lib.hid (HL0.out.below hba (Nat.le_refl _))
       have hbl:=fun C:Array Value=>(Below.refl W0.heap.size W0).alloc (Nat.le_refl _) (.cells C 70)
       have p1:=fun C:Array Value=>cell_on (hbl C) j1
       have p2:=fun C:Array Value=>cell_on (hbl C) j2
       clear hba hbl
       go_region_held3 (fun w'=>w'.cell? ⟨b,o+1,none⟩=some (.string x1)∧w'.cell? ⟨b,o+2,none⟩=some (.string x2))
        (first | (with_reducible exact ⟨j1,j2⟩) | (with_reducible exact ⟨y1,y2⟩) | (with_reducible exact ⟨n1,n2⟩) | (with_reducible exact ⟨z1,z2⟩) | exact ⟨p1 _,p2 _⟩ | fail)
        (first
         | (go_at_call 144;refine (kindOf_any x2 W0.drew HL0.out.drew).mono ?_;rintro e w' ⟨rfl,rfl⟩)
         | (go_at_call 144;refine (kindOf_any x2 (W0.alloc (.cells zc 70)).drew HLa.out.drew).mono ?_;rintro e w' ⟨rfl,rfl⟩)
         | fail)
       all_goals
        go_wp2_with fail
        go_meet
        case rel =>
         refine ⟨by rw [←HSZ.out],?_⟩
         exact ⟨by rw [←HSZ.out,←HA.out];exact BoxE.new encF W0 ⟨x1,kindO x2⟩ 70,by rw [HW0.out,←HSZ.out];exact below_drew' ((Below.refl W0.heap.size W0).alloc (Nat.le_refl _) _)⟩
      case rest =>
       obtain ⟨rfl,hP⟩:=hcut
       rename World=>wx
       obtain ⟨hx,hb⟩:=hP
       rw [HW0.out] at hb
       rw [←HSZ.out] at hb
       have HXR:=Lib.hid (HX1.out.keep hb (by rw [HSZ.out];omega))
       have HBX:=Lib.hid (HB0.out.trans (hb.mono (by rw [HSZ.out];omega)))
       have HX:=Lib.hid hx
       obtain ⟨d0,d1⟩:=box hx
       have hlt:w.heap.size < wx.heap.size:=by have:=hb.size;rw [HSZ.out] at this;omega
       have hgx:=hx.lt
       obtain ⟨r,hr⟩:∃ r,rightF A=r:=⟨_,rfl⟩
       have HRA:=Lib.hid (right_any A)
       rw [hr] at HRA
       have HER:=Lib.hid (HE.out r hr)
       clear hx hb j1 j2 hr
       go_wp2_with fail
       clear d0 d1
       refine (HRA.out wx).mono ?_
       rintro e w7 ⟨rfl,hb7⟩
       have HXR7:=Lib.hid (HXR.out.keep hb7 hlt)
       have HX7:=Lib.hid (HX.out.keep hb7 hgx)
       have HB7:=Lib.hid (HBX.out.trans (hb7.mono HBX.out.size))
       clear hb7
       cases r with
       | true =>
         obtain ⟨d0,d1⟩:=box HX7.out
         go_wp2_with (refine wpList_store_el (E:=encF) rfl 70 (.tmp 2) (.tmp 27) rfl w.heap.size zeroF A 70 rfl rfl HXR7.out (by kernel_rfl) ?_;intro w8 hb8 hg8)
         have HF:=Lib.hid (HB7.out.grown hg8 HB7.out.size (fun j hj=>by cases hj;exact Nat.le_refl _))
         obtain ⟨t0,t1⟩:=box hb8
         clear hb8 hg8
         refine bodyPost_ret (v:=.tuple #[aggL A,.int .i64 0]) (by simp [results,Tryz.results103,go_sem,t0,t1]) rfl ⟨by rw [HER.out];rfl,HF.out⟩
       | false =>
         go_wp2_with (refine wpList_store_el (E:=encF) rfl 70 (.tmp 2) (.tmp 26) rfl w.heap.size zeroF zeroF 70 rfl rfl HXR7.out (by kernel_rfl) ?_;intro w8 hb8 hg8)
         have HF:=Lib.hid (HB7.out.grown hg8 HB7.out.size (fun j hj=>by cases hj;exact Nat.le_refl _))
         obtain ⟨t0,t1⟩:=box hb8
         clear hb8 hg8
         refine bodyPost_ret (v:=.tuple #[aggL zeroF,.int .i64 5]) (by simp [results,Tryz.results103,go_sem,t0,t1]) rfl ⟨by rw [HER.out];rfl,HF.out⟩
 ·have HP:=Lib.hid (parse_len h3)
  rw [HP.out]
  obtain ⟨n,hn⟩:∃ n,ws.length=n:=⟨_,rfl⟩
  rw [hn] at h3 hcap hm ⊢
  unfold maxLen at hm
  have hnz:((n:Int) != 3)=true:=by simp;omega
  clear hc hn h3 HV
  go_enter Tryz.func103,Tryz.ntmps103
  go_wp2
  refine bodyPost_ret (v:=.tuple #[aggL zeroF,.int .i64 5]) (by simp [results,Tryz.results103,go_sem,zeroF]) rfl ⟨rfl,HB0.out⟩
end Go.Proofs.YthcpglnmhimepaaGreatDoor.Fl
end
section
namespace Go.Proofs.YthcpglnmhimepaaGreatDoor.Un
open Go.RowKit
set_option maxRecDepth 100000 in
set_option maxHeartbeats 4000000 in
theorem ahead_any (x y:Lin) (w:World) :
 Calls Tryz.prog 154 #[aggN x,aggN y] w fun en w'=>en=.returned (.bool (G.ltP x.key y.key))∧Below w.heap.size w w':=by
 have HB:=Lib.hid (((Below.refl w.heap.size w).alloc (Nat.le_refl _) (.cells (encL.cs x).toArray 169)).alloc (by simp) (.cells (encL.cs y).toArray 169))
 obtain ⟨R,hR⟩:∃ R,G.ltP x.key y.key=R:=⟨_,rfl⟩
 rw [hR]
 have hRR:R=(ltS x.acc y.acc || (decide (x.acc=y.acc) && ltS x.flow y.flow)):=hR.symm
 have HR:=Lib.hid hRR
 clear hR hRR
 cases h1:ltS x.acc y.acc with
 | true =>
   have HRS:Hid (R=true):=Lib.hid (by rw [HR.out,h1];rfl)
   unfold ltS at h1
   go_enter Tryz.func154,Tryz.ntmps154
   go_wp2
   go_ret
   exact ⟨ret_bool HRS.out.symm,HB.out⟩
 | false =>
   cases h2:(x.acc.toList==y.acc.toList) with
   | false =>
     have HRS:Hid (R=false):=Lib.hid (by rw [HR.out,h1,decide_eq_false ((Lib.bytes_beq_false_iff x.acc y.acc).1 h2)];rfl)
     unfold ltS at h1
     go_enter Tryz.func154,Tryz.ntmps154
     go_wp2
     go_ret
     exact ⟨ret_bool HRS.out.symm,HB.out⟩
   | true =>
     cases h3:ltS x.flow y.flow with
     | true =>
       have HRS:Hid (R=true):=Lib.hid (by rw [HR.out,h1,decide_eq_true ((Lib.bytes_beq_iff x.acc y.acc).1 h2),h3];rfl)
       unfold ltS at h1 h3
       go_enter Tryz.func154,Tryz.ntmps154
       go_wp2
       go_ret
       exact ⟨ret_bool HRS.out.symm,HB.out⟩
     | false =>
       have HRS:Hid (R=false):=Lib.hid (by rw [HR.out,h1,decide_eq_true ((Lib.bytes_beq_iff x.acc y.acc).1 h2),h3];rfl)
       unfold ltS at h1 h3
       go_enter Tryz.func154,Tryz.ntmps154
       go_wp2
       go_ret
       exact ⟨ret_bool HRS.out.symm,HB.out⟩
theorem info_rlin:InfoE Tryz.prog 34 169 encL :=
 InfoE.of (z:=.agg #[.string ⟨#[]⟩,.string ⟨#[]⟩,.string ⟨#[]⟩]) (n:=48) Tryz.underlying34 (by kernel_rfl) (by kernel_rfl) (by decide)
theorem InsAt.keep {α κ:Type} [G.KeyO κ] {E:Enc α} {key:α→κ} {e:TypeId} {W0 wr w':World} {L:List α} {x:α} {i:Nat} {s6:Value} (h:InsAt E key e W0 wr L x i s6) (hb:Below wr.heap.size wr w'):InsAt E key e W0 w' L x i s6:=⟨row_below h.own hb,h.bel.trans (hb.mono h.bel.size),h.no⟩
theorem linE_there {L:List Lin} {x y:Lin} {i:Nat} (hy:L[i]?=some y) (he:y.key=x.key):linEr L x=7:=by
 unfold linEr
 rw [if_pos]
 have hm:=List.mem_of_getElem? hy
 cases hf:G.findK Lin.key L x.key with
 | some z=>rfl
 | none=>exact absurd he (G.findK_no hf y hm)
theorem linE_not {L:List Lin} {x:Lin} (h:∀ (j:Nat) (y:Lin),L[j]?=some y→y.key≠x.key):linEr L x=if 1000≤L.length then 4 else 0:=by
 unfold linEr
 rw [if_neg]
 rw [G.findK_none (fun y hy e=>by
  obtain ⟨j,hj,rfl⟩:=List.getElem_of_mem hy
  exact h j _ (List.getElem?_eq_getElem hj) e)]
 simp
set_option maxRecDepth 100000 in
set_option maxHeartbeats 8000000 in
theorem rline_any (v:Value) (L:List Lin) (x:Lin) (w:World) (h:ElsV encL w v L) (hL:L.length≤1000) :
 Calls Tryz.prog 121 #[v,aggN x] w (ListTold encL w v (G.insR Lin.key L x) (linEr L x)):=by
 have hB0:=(Below.refl w.heap.size w).alloc (Nat.le_refl _) (.cells #[.string x.acc,.string x.flow,.string x.goal] 169)
 have hX0:=BoxE.new encL w x 169
 have hV0:=h.keep hB0
 have hS0:(w.alloc (.cells #[.string x.acc,.string x.flow,.string x.goal] 169)).heap.size=w.heap.size+1:=World.size_alloc ..
 obtain ⟨W0,hW0⟩:∃ W0,w.alloc (.cells #[.string x.acc,.string x.flow,.string x.goal] 169)=W0:=⟨_,rfl⟩
 have hX0':BoxE encL W0 w.heap.size 169 x:=by rw [←hW0];exact hX0
 rw [hW0] at hB0 hV0 hS0
 have HB0:=Lib.hid hB0
 have HX0:=Lib.hid hX0'
 have HV0:=Lib.hid hV0
 have HS0:=Lib.hid hS0
 obtain ⟨p,c,e,hcap,hm,_,hc⟩:=hV0
 subst e
 obtain ⟨n,hn⟩:∃ n,L.length=n:=⟨_,rfl⟩
 rw [hn] at hcap hL HV0 ⊢
 obtain ⟨N,hN⟩:∃ N,linEr L x=N:=⟨_,rfl⟩
 rw [hN]
 have HC:=Lib.hid hc
 have HN:=Lib.hid hn
 have HE:=Lib.hid hN
 have HI:=Lib.hid info_rlin
 unfold maxLen at hm
 have HST:Hid (InsAt encL Lin.key 169 W0 W0 L x 0 (.slice none 0 0)):=Lib.hid ⟨World.ownsRow_nil _ _ _ _,Below.refl _ _,fun j y hj=>absurd hj (Nat.not_lt_zero _)⟩
 clear h hB0 hX0 hX0' hS0 hc hn hN
 go_enter Tryz.func121,Tryz.ntmps121
 go_wp2
 clear hW0
 go_loopw [6,7,8] (fun s6 s7 s8 wr=>∃ (i:Nat) (v6:Value),i≤n∧s8=.int .i64 (i:Int)∧v6=s6∧s7=.bool (G.doneR Lin.key (L.take i) x)∧Hid (InsAt encL Lin.key 169 W0 wr L x i v6)) (fun _ _ s8 _=>n - (intOf s8).toNat)
 case atStart=>exact ⟨0,_,Nat.zero_le _,rfl,rfl,rfl,HST⟩
 case round =>
  obtain ⟨i,v6,hi,rfl,rfl,rfl,HA⟩:=hrel
  by_cases hlt:i < n
  ·obtain ⟨y,hy⟩:∃ y,L[i]?=some y:=⟨_,List.getElem?_eq_getElem (by rw [HN.out];exact hlt)⟩
   obtain ⟨b,o,rfl,hat⟩:=HC.out i y hy
   obtain ⟨d0,d1,d2⟩:=lin3 (hat.keep HA.out.bel hat.lt)
   obtain ⟨q0,q1,q2⟩:=lin3 ((HX0.out.keep HA.out.bel HX0.out.lt).at0)
   have HY:=Lib.hid hy
   have HAT:=Lib.hid hat
   have HTK:Hid (L.take (i+1)=L.take i++[y]):=Lib.hid (by rw [List.take_succ_eq_append_getElem (by rw [HN.out];exact hlt),(List.getElem?_eq_some_iff.1 hy).2])
   obtain ⟨D,hD⟩:∃ D,G.doneR Lin.key (L.take i) x=D:=⟨_,rfl⟩
   have HD:=Lib.hid hD
   rw [hD]
   clear hy hat hD
   by_cases hyk:y.key=x.key
   ·have HYE:=Lib.hid hyk
    have HRS:Hid (N=7):=Lib.hid (by rw [←HE.out];exact linE_there HY.out HYE.out)
    have h1:(y.acc.toList==x.acc.toList)=true:=(Lib.bytes_beq_iff y.acc x.acc).2 (Prod.mk.inj hyk).1
    have h2:(y.flow.toList==x.flow.toList)=true:=(Lib.bytes_beq_iff y.flow x.flow).2 (Prod.mk.inj hyk).2
    clear hyk
    go_wp2_with fail
    go_big_quiet (fail)
    clear d0 d1 d2 q0 q1 q2 h1 h2
    go_wp2
    go_ret2
    have HQ:=HA.out.drewN nq
    rw [HRS.out]
    exact ⟨_,rfl,fun _=>rfl,fun h=>absurd h (by decide),HB0.out.trans (HQ.bel.mono HB0.out.size)⟩
   ·have HYE:=Lib.hid hyk
    have HWQ:Hid (∀ wq,(∃ q,wq=wr.drewN q)→InsAt encL Lin.key 169 W0 wq L x i v6):=Lib.hid (fun wq ⟨q,e⟩=>by rw [e];exact HA.out.drewN q)
    cases h1:(y.acc.toList==x.acc.toList) with
    | false =>
      clear hyk
      go_wp2_with fail
      go_big_quiet (fail)
      clear h1
      have HA1:=Lib.hid (HA.out.drewN nq)
      clear d0 d1 d2 q0 q1 q2 HA HWQ
      generalize wr.drewN nq=wq at *
      obtain ⟨d0,d1,d2⟩:=lin3 (HAT.out.keep HA1.out.bel HAT.out.lt)
      obtain ⟨q0,q1,q2⟩:=lin3 ((HX0.out.keep HA1.out.bel HX0.out.lt).at0)
      cases D with
      | true =>
        go_wp2_with fail
        go_big_quiet (fail)
        have HA2:=Lib.hid (HA1.out.drewN nq)
        clear d0 d1 d2 q0 q1 q2 HA1
        generalize wq.drewN nq=w2 at *
        obtain ⟨d0,d1,d2⟩:=lin3 (HAT.out.keep HA2.out.bel HAT.out.lt)
        obtain ⟨q0,q1,q2⟩:=lin3 ((HX0.out.keep HA2.out.bel HX0.out.lt).at0)
        have HB3:=Lib.hid ((Below.refl w2.heap.size w2).alloc (Nat.le_refl _) (.cells (encL.cs y).toArray 169))
        go_wp2_with (at_builtin;refine wpList_append_el (E:=encL) rfl _ _ 34 169 rfl HI.out W0.heap.size _ y w2.heap.size (HA2.out.own.alloc _) rfl (el_new encL w2 y _) (by have:=HA2.out.bel.size;simp;omega) (mid_small HN.out hL) ?_;intro v9 w9 hr9 hb9 hg9)
        have HA9:Hid (InsAt encL Lin.key 169 W0 w9 L x (i+1) v9):=Lib.hid ⟨by rw [HTK.out,G.midR_there y HD.out];exact hr9,(HA2.out.bel.trans (HB3.out.mono HA2.out.bel.size)).trans hb9,no_snoc HA2.out.no HY.out HYE.out⟩
        have HD9:Hid (G.doneR Lin.key (L.take (i+1)) x=true):=Lib.hid (by rw [HTK.out,G.doneR_snoc,HD.out];first | rfl | (rw [HLT.out];rfl))
        clear hr9 hb9 hg9 d0 d1 d2 q0 q1 q2
        go_wp2
        go_roundw
        case rel=>exact ⟨i+1,_,by omega,by go_num,rfl,by rw [HD9.out],HA9⟩
        case measure=>simp [intOf];omega
      | false =>
        have HAG:=Lib.hid (ahead_any x y)
        cases hlx:G.ltP x.key y.key with
        | true =>
          have HLT:Hid (G.KeyO.lt (Lin.key x) (Lin.key y)=true):=Lib.hid hlx
          rw [hlx] at HAG
          clear hlx
          have r0:=fun p:Past wq=>cell_past d0 p
          have r1:=fun p:Past wq=>cell_past d1 p
          have r2:=fun p:Past wq=>cell_past d2 p
          have s0:=fun p:Past wq=>cell_past q0 p
          have s1:=fun p:Past wq=>cell_past q1 p
          have s2:=fun p:Past wq=>cell_past q2 p
          clear d0 d1 d2 q0 q1 q2
          go_wp2_with fail
          refine wp_region_past (by kernel_rfl) (by kernel_rfl) ?_
          repeat (go_big_quiet_step ((go_at_call 154;exact Calls.past_of (HAG.out _))))
          refine wpQuiet_nil ?_
          intro w2 hw'
          obtain ⟨⟨w2',hb2⟩,rfl⟩:=hw'
          have HA2:=Lib.hid (HA1.out.keep hb2)
          clear r0 r1 r2 s0 s1 s2 HA1 hb2
          obtain ⟨d0,d1,d2⟩:=lin3 (HAT.out.keep HA2.out.bel HAT.out.lt)
          obtain ⟨q0,q1,q2⟩:=lin3 ((HX0.out.keep HA2.out.bel HX0.out.lt).at0)
          have HB3:=Lib.hid ((Below.refl w2.heap.size w2).alloc (Nat.le_refl _) (.cells (encL.cs x).toArray 169))
          go_wp2_with (at_builtin;first
           | (refine wpList_append_el (E:=encL) rfl _ _ 34 169 rfl HI.out W0.heap.size _ x w2.heap.size (HA2.out.own.alloc _) rfl (el_new encL w2 x _) (by have:=HA2.out.bel.size;simp;omega) (mid_small HN.out hL) ?_;intro v8 w8 hr8 hb8 hg8;have HB8:Hid (Below W0.heap.size W0 w8):=Lib.hid ((HA2.out.bel.trans (HB3.out.mono HA2.out.bel.size)).trans hb8);have HO8:=Lib.hid hr8;have HB9:=Lib.hid ((Below.refl w8.heap.size w8).alloc (Nat.le_refl _) (.cells (encL.cs y).toArray 169));clear d0 d1 d2 q0 q1 q2 hr8 hb8 hg8;obtain ⟨d0,d1,d2⟩:=lin3 (HAT.out.keep HB8.out HAT.out.lt))
           | (refine wpList_append_el (E:=encL) rfl _ _ 34 169 rfl HI.out W0.heap.size _ y w8.heap.size (HO8.out.alloc _) rfl (el_new encL w8 y _) (by have:=HB8.out.size;simp;omega) (mid_small1 HN.out hL) ?_;intro v9 w9 hr9 hb9 hg9)
           | fail)
          have HA9:Hid (InsAt encL Lin.key 169 W0 w9 L x (i+1) v9):=Lib.hid ⟨by rw [HTK.out,G.midR_now HD.out HLT.out];exact hr9,(HB8.out.trans (HB9.out.mono HB8.out.size)).trans hb9,no_snoc HA2.out.no HY.out HYE.out⟩
          have HD9:Hid (G.doneR Lin.key (L.take (i+1)) x=true):=Lib.hid (by rw [HTK.out,G.doneR_snoc,HD.out,HLT.out];rfl)
          clear hr9 hb9 hg9 d0 d1 d2
          go_wp2
          go_roundw
          case rel=>exact ⟨i+1,_,by omega,by go_num,rfl,by rw [HD9.out],HA9⟩
          case measure=>simp [intOf];omega
        | false =>
          have HLT:Hid (G.KeyO.lt (Lin.key x) (Lin.key y)=false):=Lib.hid hlx
          rw [hlx] at HAG
          clear hlx
          have r0:=fun p:Past wq=>cell_past d0 p
          have r1:=fun p:Past wq=>cell_past d1 p
          have r2:=fun p:Past wq=>cell_past d2 p
          have s0:=fun p:Past wq=>cell_past q0 p
          have s1:=fun p:Past wq=>cell_past q1 p
          have s2:=fun p:Past wq=>cell_past q2 p
          clear d0 d1 d2 q0 q1 q2
          go_wp2_with fail
          refine wp_region_past (by kernel_rfl) (by kernel_rfl) ?_
          repeat (go_big_quiet_step ((go_at_call 154;exact Calls.past_of (HAG.out _))))
          refine wpQuiet_nil ?_
          intro w2 hw'
          obtain ⟨⟨w2',hb2⟩,rfl⟩:=hw'
          have HA2:=Lib.hid (HA1.out.keep hb2)
          clear r0 r1 r2 s0 s1 s2 HA1 hb2
          obtain ⟨d0,d1,d2⟩:=lin3 (HAT.out.keep HA2.out.bel HAT.out.lt)
          obtain ⟨q0,q1,q2⟩:=lin3 ((HX0.out.keep HA2.out.bel HX0.out.lt).at0)
          have HB3:=Lib.hid ((Below.refl w2.heap.size w2).alloc (Nat.le_refl _) (.cells (encL.cs y).toArray 169))
          go_wp2_with (at_builtin;refine wpList_append_el (E:=encL) rfl _ _ 34 169 rfl HI.out W0.heap.size _ y w2.heap.size (HA2.out.own.alloc _) rfl (el_new encL w2 y _) (by have:=HA2.out.bel.size;simp;omega) (mid_small HN.out hL) ?_;intro v9 w9 hr9 hb9 hg9)
          have HA9:Hid (InsAt encL Lin.key 169 W0 w9 L x (i+1) v9):=Lib.hid ⟨by rw [HTK.out,G.midR_not HD.out HLT.out];exact hr9,(HA2.out.bel.trans (HB3.out.mono HA2.out.bel.size)).trans hb9,no_snoc HA2.out.no HY.out HYE.out⟩
          have HD9:Hid (G.doneR Lin.key (L.take (i+1)) x=false):=Lib.hid (by rw [HTK.out,G.doneR_snoc,HD.out];first | rfl | (rw [HLT.out];rfl))
          clear hr9 hb9 hg9 d0 d1 d2 q0 q1 q2
          go_wp2
          go_roundw
          case rel=>exact ⟨i+1,_,by omega,by go_num,rfl,by rw [HD9.out],HA9⟩
          case measure=>simp [intOf];omega
    | true =>
      have h2:(y.flow.toList==x.flow.toList)=false:=(Lib.bytes_beq_false_iff y.flow x.flow).2 (fun e=>hyk (Prod.ext ((Lib.bytes_beq_iff y.acc x.acc).1 h1) e))
      clear hyk
      go_wp2_with fail
      go_big_quiet (fail)
      clear h1 h2
      have HA1:=Lib.hid (HA.out.drewN nq)
      clear d0 d1 d2 q0 q1 q2 HA HWQ
      generalize wr.drewN nq=wq at *
      obtain ⟨d0,d1,d2⟩:=lin3 (HAT.out.keep HA1.out.bel HAT.out.lt)
      obtain ⟨q0,q1,q2⟩:=lin3 ((HX0.out.keep HA1.out.bel HX0.out.lt).at0)
      cases D with
      | true =>
        go_wp2_with fail
        go_big_quiet (fail)
        have HA2:=Lib.hid (HA1.out.drewN nq)
        clear d0 d1 d2 q0 q1 q2 HA1
        generalize wq.drewN nq=w2 at *
        obtain ⟨d0,d1,d2⟩:=lin3 (HAT.out.keep HA2.out.bel HAT.out.lt)
        obtain ⟨q0,q1,q2⟩:=lin3 ((HX0.out.keep HA2.out.bel HX0.out.lt).at0)
        have HB3:=Lib.hid ((Below.refl w2.heap.size w2).alloc (Nat.le_refl _) (.cells (encL.cs y).toArray 169))
        go_wp2_with (at_builtin;refine wpList_append_el (E:=encL) rfl _ _ 34 169 rfl HI.out W0.heap.size _ y w2.heap.size (HA2.out.own.alloc _) rfl (el_new encL w2 y _) (by have:=HA2.out.bel.size;simp;omega) (mid_small HN.out hL) ?_;intro v9 w9 hr9 hb9 hg9)
        have HA9:Hid (InsAt encL Lin.key 169 W0 w9 L x (i+1) v9):=Lib.hid ⟨by rw [HTK.out,G.midR_there y HD.out];exact hr9,(HA2.out.bel.trans (HB3.out.mono HA2.out.bel.size)).trans hb9,no_snoc HA2.out.no HY.out HYE.out⟩
        have HD9:Hid (G.doneR Lin.key (L.take (i+1)) x=true):=Lib.hid (by rw [HTK.out,G.doneR_snoc,HD.out];first | rfl | (rw [HLT.out];rfl))
        clear hr9 hb9 hg9 d0 d1 d2 q0 q1 q2
        go_wp2
        go_roundw
        case rel=>exact ⟨i+1,_,by omega,by go_num,rfl,by rw [HD9.out],HA9⟩
        case measure=>simp [intOf];omega
      | false =>
        have HAG:=Lib.hid (ahead_any x y)
        cases hlx:G.ltP x.key y.key with
        | true =>
          have HLT:Hid (G.KeyO.lt (Lin.key x) (Lin.key y)=true):=Lib.hid hlx
          rw [hlx] at HAG
          clear hlx
          have r0:=fun p:Past wq=>cell_past d0 p
          have r1:=fun p:Past wq=>cell_past d1 p
          have r2:=fun p:Past wq=>cell_past d2 p
          have s0:=fun p:Past wq=>cell_past q0 p
          have s1:=fun p:Past wq=>cell_past q1 p
          have s2:=fun p:Past wq=>cell_past q2 p
          clear d0 d1 d2 q0 q1 q2
          go_wp2_with fail
          refine wp_region_past (by kernel_rfl) (by kernel_rfl) ?_
          repeat (go_big_quiet_step ((go_at_call 154;exact Calls.past_of (HAG.out _))))
          refine wpQuiet_nil ?_
          intro w2 hw'
          obtain ⟨⟨w2',hb2⟩,rfl⟩:=hw'
          have HA2:=Lib.hid (HA1.out.keep hb2)
          clear r0 r1 r2 s0 s1 s2 HA1 hb2
          obtain ⟨d0,d1,d2⟩:=lin3 (HAT.out.keep HA2.out.bel HAT.out.lt)
          obtain ⟨q0,q1,q2⟩:=lin3 ((HX0.out.keep HA2.out.bel HX0.out.lt).at0)
          have HB3:=Lib.hid ((Below.refl w2.heap.size w2).alloc (Nat.le_refl _) (.cells (encL.cs x).toArray 169))
          go_wp2_with (at_builtin;first
           | (refine wpList_append_el (E:=encL) rfl _ _ 34 169 rfl HI.out W0.heap.size _ x w2.heap.size (HA2.out.own.alloc _) rfl (el_new encL w2 x _) (by have:=HA2.out.bel.size;simp;omega) (mid_small HN.out hL) ?_;intro v8 w8 hr8 hb8 hg8;have HB8:Hid (Below W0.heap.size W0 w8):=Lib.hid ((HA2.out.bel.trans (HB3.out.mono HA2.out.bel.size)).trans hb8);have HO8:=Lib.hid hr8;have HB9:=Lib.hid ((Below.refl w8.heap.size w8).alloc (Nat.le_refl _) (.cells (encL.cs y).toArray 169));clear d0 d1 d2 q0 q1 q2 hr8 hb8 hg8;obtain ⟨d0,d1,d2⟩:=lin3 (HAT.out.keep HB8.out HAT.out.lt))
           | (refine wpList_append_el (E:=encL) rfl _ _ 34 169 rfl HI.out W0.heap.size _ y w8.heap.size (HO8.out.alloc _) rfl (el_new encL w8 y _) (by have:=HB8.out.size;simp;omega) (mid_small1 HN.out hL) ?_;intro v9 w9 hr9 hb9 hg9)
           | fail)
          have HA9:Hid (InsAt encL Lin.key 169 W0 w9 L x (i+1) v9):=Lib.hid ⟨by rw [HTK.out,G.midR_now HD.out HLT.out];exact hr9,(HB8.out.trans (HB9.out.mono HB8.out.size)).trans hb9,no_snoc HA2.out.no HY.out HYE.out⟩
          have HD9:Hid (G.doneR Lin.key (L.take (i+1)) x=true):=Lib.hid (by rw [HTK.out,G.doneR_snoc,HD.out,HLT.out];rfl)
          clear hr9 hb9 hg9 d0 d1 d2
          go_wp2
          go_roundw
          case rel=>exact ⟨i+1,_,by omega,by go_num,rfl,by rw [HD9.out],HA9⟩
          case measure=>simp [intOf];omega
        | false =>
          have HLT:Hid (G.KeyO.lt (Lin.key x) (Lin.key y)=false):=Lib.hid hlx
          rw [hlx] at HAG
          clear hlx
          have r0:=fun p:Past wq=>cell_past d0 p
          have r1:=fun p:Past wq=>cell_past d1 p
          have r2:=fun p:Past wq=>cell_past d2 p
          have s0:=fun p:Past wq=>cell_past q0 p
          have s1:=fun p:Past wq=>cell_past q1 p
          have s2:=fun p:Past wq=>cell_past q2 p
          clear d0 d1 d2 q0 q1 q2
          go_wp2_with fail
          refine wp_region_past (by kernel_rfl) (by kernel_rfl) ?_
          repeat (go_big_quiet_step ((go_at_call 154;exact Calls.past_of (HAG.out _))))
          refine wpQuiet_nil ?_
          intro w2 hw'
          obtain ⟨⟨w2',hb2⟩,rfl⟩:=hw'
          have HA2:=Lib.hid (HA1.out.keep hb2)
          clear r0 r1 r2 s0 s1 s2 HA1 hb2
          obtain ⟨d0,d1,d2⟩:=lin3 (HAT.out.keep HA2.out.bel HAT.out.lt)
          obtain ⟨q0,q1,q2⟩:=lin3 ((HX0.out.keep HA2.out.bel HX0.out.lt).at0)
          have HB3:=Lib.hid ((Below.refl w2.heap.size w2).alloc (Nat.le_refl _) (.cells (encL.cs y).toArray 169))
          go_wp2_with (at_builtin;refine wpList_append_el (E:=encL) rfl _ _ 34 169 rfl HI.out W0.heap.size _ y w2.heap.size (HA2.out.own.alloc _) rfl (el_new encL w2 y _) (by have:=HA2.out.bel.size;simp;omega) (mid_small HN.out hL) ?_;intro v9 w9 hr9 hb9 hg9)
          have HA9:Hid (InsAt encL Lin.key 169 W0 w9 L x (i+1) v9):=Lib.hid ⟨by rw [HTK.out,G.midR_not HD.out HLT.out];exact hr9,(HA2.out.bel.trans (HB3.out.mono HA2.out.bel.size)).trans hb9,no_snoc HA2.out.no HY.out HYE.out⟩
          have HD9:Hid (G.doneR Lin.key (L.take (i+1)) x=false):=Lib.hid (by rw [HTK.out,G.doneR_snoc,HD.out];first | rfl | (rw [HLT.out];rfl))
          clear hr9 hb9 hg9 d0 d1 d2 q0 q1 q2
          go_wp2
          go_roundw
          case rel=>exact ⟨i+1,_,by omega,by go_num,rfl,by rw [HD9.out],HA9⟩
          case measure=>simp [intOf];omega
  ·have hnf:Hid (∀ (j:Nat) (y:Lin),L[j]?=some y→y.key≠x.key):=Lib.hid (fun j y hy=>HA.out.no j y (by have:=(List.getElem?_eq_some_iff.1 hy).1;rw [HN.out] at this;omega) hy)
   have hNN:Hid (N=if 1000≤n then 4 else 0):=Lib.hid (by rw [←HE.out,linE_not hnf.out,HN.out])
   have hTA:Hid (L.take i=L):=Lib.hid (List.take_of_length_le (by rw [HN.out];omega))
   rw [hTA.out]
   obtain ⟨D,hD⟩:∃ D,G.doneR Lin.key L x=D:=⟨_,rfl⟩
   have HD:=Lib.hid hD
   rw [hD]
   clear hD
   by_cases h60:1000≤n
   ·have HRS:Hid (N=4):=Lib.hid (by rw [hNN.out,if_pos h60])
    go_wp2
    go_ret2
    rw [HRS.out]
    exact ⟨_,rfl,fun _=>rfl,fun h=>absurd h (by decide),HB0.out.trans (HA.out.bel.mono HB0.out.size)⟩
   ·have HRS:Hid (N=0):=Lib.hid (by rw [hNN.out,if_neg h60])
    have HO:=Lib.hid HA.out.own
    rw [hTA.out] at HO
    cases D with
    | true =>
      go_wp2
      go_ret2
      rw [HRS.out]
      exact ⟨_,rfl,fun h=>absurd rfl h,fun _=>⟨_,by rw [←G.midR_end HD.out];exact row_base HO.out HB0.out.size⟩,HB0.out.trans (HA.out.bel.mono HB0.out.size)⟩
    | false =>
      obtain ⟨q0,q1,q2⟩:=lin3 ((HX0.out.keep HA.out.bel HX0.out.lt).at0)
      have HB3:=Lib.hid ((Below.refl wr.heap.size wr).alloc (Nat.le_refl _) (.cells (encL.cs x).toArray 169))
      go_wp2_with (at_builtin;refine wpList_append_el (E:=encL) rfl _ _ 34 169 rfl HI.out W0.heap.size _ x wr.heap.size (HO.out.alloc _) rfl (el_new encL wr x _) (by have:=HA.out.bel.size;simp;omega) (mid_small0 HN.out hL) ?_;intro v9 w9 hr9 hb9 hg9)
      have HO9:=Lib.hid hr9
      have HB9:=Lib.hid ((HA.out.bel.trans (HB3.out.mono HA.out.bel.size)).trans hb9)
      clear hr9 hb9 hg9 q0 q1 q2
      go_wp2
      go_ret2
      rw [HRS.out]
      exact ⟨_,rfl,fun h=>absurd rfl h,fun _=>⟨_,by rw [←G.midR_last HD.out];exact row_base HO9.out HB0.out.size⟩,HB0.out.trans (HB9.out.mono HB0.out.size)⟩
end Go.Proofs.YthcpglnmhimepaaGreatDoor.Un
end
