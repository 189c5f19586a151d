/- UnitReadF UnitKeepS -/
import Derived.Test.YtfhhihamndbcnaaGreatDoorR27
import Derived.Test.YtfhhihamndbcnaaGreatDoorR30
import Derived.Test.YtfhhihamndbcnaaGreatDoorR31
section
namespace Go.Proofs.YtfhhihamndbcnaaGreatDoor.Un
open Go.RowKit Go.Maps
set_option maxRecDepth 100000 in
set_option maxHeartbeats 8000000 in
theorem readFlow_any (v:Value) (ws:List ByteArray) (W:World) (B R m n:Nat) (c f e l:Value) (D:DataW Unit) (M:Mast) (hv:StrsV W v ws) (hlaid:Fl.Laid W) (h:RdAt W B R m c f e l n D M) (hB:B≤W.heap.size) (hL:M.flows.length≤1000) (hri:riseK Fl.Flow.code M.flows=true) :
 Calls Tryz.prog 77 #[.pointer (some ⟨R,0,none⟩),v] W (ReadTold W B R m n D { M with flows:=insK Fl.Flow.code M.flows (Fl.parseF ws).1 } (if (Fl.parseF ws).2=0 then Fl.addE M.flows (Fl.parseF ws).1 else (Fl.parseF ws).2)):=by
 have HP:=Lib.hid (Fl.parse_any v ws W hv hlaid)
 have HL:=Lib.hid hL
 obtain ⟨p,cp,rfl,_⟩:=hv
 obtain ⟨A,hA⟩:∃ A,(Fl.parseF ws).1=A:=⟨_,rfl⟩
 obtain ⟨E1,hE1⟩:∃ E1,(Fl.parseF ws).2=E1:=⟨_,rfl⟩
 rw [hA,hE1] at HP ⊢
 have HR:=Lib.hid h
 have HB:=Lib.hid hB
 have hAV:Fl.addE M.flows A=0→Fl.addV M.flows A=insK Fl.Flow.code M.flows A:=fun h0=>by unfold Fl.addV;rw [if_pos h0]
 have HAV:=Lib.hid hAV
 obtain ⟨E2,hE2⟩:∃ E2,Fl.addE M.flows A=E2:=⟨_,rfl⟩
 obtain ⟨MV,hMV⟩:∃ MV,Fl.addV M.flows A=MV:=⟨_,rfl⟩
 have HAD:=Lib.hid (fun (X:World) (hX:Fl.FlowsV X f M.flows)=>Fl.add_own f M.flows A X hX hri hL)
 rw [hE2] at HAV ⊢
 rw [hMV] at HAV
 simp only [hE2,hMV] at HAD
 obtain ⟨nw,hnw⟩:∃ nw,ws.length=nw:=⟨_,rfl⟩
 rw [hnw] at HP ⊢
 obtain ⟨E,hE⟩:∃ E,(if E1=0 then E2 else E1)=E:=⟨_,rfl⟩
 obtain ⟨MM,hMM⟩:∃ MM:Mast,({ M with flows:=insK Fl.Flow.code M.flows A }:Mast)=MM:=⟨_,rfl⟩
 rw [hE,hMM]
 have HE:=Lib.hid hE
 have HMM:=Lib.hid hMM
 clear hA hE1 hE2 hMV h hB hL hri hlaid hAV hnw hE hMM
 go_enter Tryz.func77,Tryz.ntmps77
 go_wp2_with fail
 refine HP.out.mono ?_
 rintro en w1 ⟨rfl,hb1⟩
 have hb2:=hb1.alloc hb1.size (.cells #[.string A.code,.int .i64 A.kind] 81)
 have HR2:=Lib.hid (HR.out.below hb2)
 have HX2:=Lib.hid (BoxE.new Fl.encF w1 A 81)
 have HB2:=Lib.hid (hb2.mono HB.out)
 have HS2:Hid (B≤(w1.alloc (.cells #[.string A.code,.int .i64 A.kind] 81)).heap.size):=Lib.hid (Nat.le_trans HB.out hb2.size)
 clear hb1 hb2
 by_cases h0:E1=0
 ·subst h0
  obtain ⟨W2,hW2⟩:∃ W2,w1.alloc (.cells #[.string A.code,.int .i64 A.kind] 81)=W2:=⟨_,rfl⟩
  rw [hW2] at HR2 HX2 HB2 HS2
  go_wp2_with fail
  clear hW2
  obtain ⟨k0,k1,k2,k3,k4,k5,k6,k7,k8⟩:=(show NineAt W2.drew R c f e l M from HR2.out.nine.kept ⟨rfl,rfl,rfl,Nat.le_refl _,fun _ _=>rfl⟩)
  obtain ⟨j0,j1⟩:=Fl.box (show BoxE Fl.encF W2.drew w1.heap.size 81 A from HX2.out)
  have HCV:Hid (Fl.FlowsV W2.drew f M.flows):=Lib.hid (ElsV.keep (w:=W2) (els_of_own HR2.out.flows) ⟨rfl,rfl,rfl,Nat.le_refl _,fun _ _=>rfl⟩)
  clear k0 k2 k3 k4 k5 k6 k7 k8
  go_region_with (first
   | (go_at_call 113;refine (HAD.out W2.drew HCV.out).mono ?_;rintro en w3 ⟨v9,rfl,ho9,hb9⟩;obtain ⟨p9,c9,rfl,_,_⟩:=els_of_own ho9;have HR3:=Lib.hid (RdAt.below (W:=W2.drew) (HR2.out.below (W':=W2.drew) ⟨rfl,rfl,rfl,Nat.le_refl _,fun _ _=>rfl⟩) hb9);have hz:=HR3.out.nine.c1;have hfz:=HR3.out.free 1)
   | fail)
  all_goals
   have HE2:Hid (E2=E):=Lib.hid (by rw [←HE.out,if_pos (by trivial)])
   have HFIN:Hid (E=0→RdAt (w3.setCell ⟨R,1,none⟩ (.slice p9 MV.length c9)) B R m c (.slice p9 MV.length c9) e l n D MM):=Lib.hid (fun h0=>by
    have hmv:=HAV.out (by rw [HE2.out];exact h0)
    rw [←HMM.out]
    refine rd_stored 1 _ HR3.out.box rfl HR3.out.chart ?_ HR3.out.ents HR3.out.lines HR3.out.map HR3.out.geR HR3.out.geM
    show w3.ownsRow B _ 2 _ (insK Fl.Flow.code M.flows A).length (flat Fl.encF (insK Fl.Flow.code M.flows A))
    rw [←hmv]
    exact row_base ho9 HS2.out)
   have HBF:Hid (Below B W (w3.setCell ⟨R,1,none⟩ (.slice p9 MV.length c9))):=Lib.hid (below_stored (HB2.out.trans ((below_undrawn hb9).mono HS2.out)) HR3.out.geR 1 _)
   clear ho9 hb9 hz hfz
   go_wp2
   go_ret
   exact ⟨by rw [←HE2.out];rfl,HBF.out,fun h0=>⟨_,_,_,_,HFIN.out h0⟩⟩
 ·have HE2:Hid (E1=E∧E≠0):=Lib.hid (by have:=HE.out;rw [if_neg h0] at this;exact ⟨this,by rw [←this];exact h0⟩)
  go_wp2
  go_ret
  exact ⟨by rw [←HE2.out.1];rfl,HB2.out,fun h1=>absurd h1 HE2.out.2⟩
end Go.Proofs.YtfhhihamndbcnaaGreatDoor.Un
end
section
namespace Go.Proofs.YtfhhihamndbcnaaGreatDoor.Un
open Go.RowKit Go.Maps
set_option maxRecDepth 100000 in
set_option maxHeartbeats 4000000 in
theorem keep_cur (v:Value) (a:ByteArray) (W:World) (B R m n:Nat) (c f e l:Value) (D:DataW Unit) (M:Mast) (hv:StrsV W v [tGroup,a]) (h:RdAt W B R m c f e l n D M) :
 Calls Tryz.prog 80 #[.pointer (some ⟨R,0,none⟩),v] W (ReadTold W B R m n D { M with cur:=a } 0):=by
 obtain ⟨p,cp,rfl,_,_,hc⟩:=hv
 obtain ⟨g,o,rfl,k0⟩:=hc 0 tGroup rfl
 obtain ⟨g',o',e1,k1⟩:=hc 1 a rfl
 cases e1
 rw [Nat.add_zero] at k0
 have g0:(tGroup.toList==[101,110,116,105,116,121])=false:=by rw [qEntity];decide
 have g1:(tGroup.toList==[109,97,112])=false:=by rw [qMap];decide
 have gt:(tGroup.toList==[103,114,111,117,112])=true:=by rw [qGroup];decide
 have HF:Hid (RdAt (W.setCell ⟨R,4,none⟩ (.string a)) B R m c f e l n D { M with cur:=a }):=Lib.hid (rd_stored 4 _ h.box rfl h.chart h.flows h.ents h.lines h.map h.geR h.geM)
 have HB:Hid (Below B W (W.setCell ⟨R,4,none⟩ (.string a))):=Lib.hid (below_stored (Below.refl B W) h.geR 4 _)
 obtain ⟨MM,hMM⟩:∃ MM:Mast,({ M with cur:=a }:Mast)=MM:=⟨_,rfl⟩
 rw [hMM] at HF ⊢
 have hz:=h.nine.c4
 have hfz:=h.free 4
 clear hc hMM h
 go_enter Tryz.func80,Tryz.ntmps80
 go_wp2
 go_ret
 exact ⟨rfl,HB.out,fun _=>⟨_,_,_,_,HF.out⟩⟩
set_option maxRecDepth 100000 in
set_option maxHeartbeats 4000000 in
theorem keep_res (v:Value) (a:ByteArray) (W:World) (B R m n:Nat) (c f e l:Value) (D:DataW Unit) (M:Mast) (hv:StrsV W v [tReserve,a]) (h:RdAt W B R m c f e l n D M) :
 Calls Tryz.prog 80 #[.pointer (some ⟨R,0,none⟩),v] W (ReadTold W B R m n D { M with res:=a } 0):=by
 obtain ⟨p,cp,rfl,_,_,hc⟩:=hv
 obtain ⟨g,o,rfl,k0⟩:=hc 0 tReserve rfl
 obtain ⟨g',o',e1,k1⟩:=hc 1 a rfl
 cases e1
 rw [Nat.add_zero] at k0
 have g0:(tReserve.toList==[101,110,116,105,116,121])=false:=by rw [qEntity];decide
 have g1:(tReserve.toList==[109,97,112])=false:=by rw [qMap];decide
 have g2:(tReserve.toList==[103,114,111,117,112])=false:=by rw [qGroup];decide
 have gt:(tReserve.toList==[114,101,115,101,114,118,101])=true:=by rw [qReserve];decide
 have HF:Hid (RdAt (W.setCell ⟨R,5,none⟩ (.string a)) B R m c f e l n D { M with res:=a }):=Lib.hid (rd_stored 5 _ h.box rfl h.chart h.flows h.ents h.lines h.map h.geR h.geM)
 have HB:Hid (Below B W (W.setCell ⟨R,5,none⟩ (.string a))):=Lib.hid (below_stored (Below.refl B W) h.geR 5 _)
 obtain ⟨MM,hMM⟩:∃ MM:Mast,({ M with res:=a }:Mast)=MM:=⟨_,rfl⟩
 rw [hMM] at HF ⊢
 have hz:=h.nine.c5
 have hfz:=h.free 5
 clear hc hMM h
 go_enter Tryz.func80,Tryz.ntmps80
 go_wp2
 go_ret
 exact ⟨rfl,HB.out,fun _=>⟨_,_,_,_,HF.out⟩⟩
set_option maxRecDepth 100000 in
set_option maxHeartbeats 4000000 in
theorem keep_dif (v:Value) (a:ByteArray) (W:World) (B R m n:Nat) (c f e l:Value) (D:DataW Unit) (M:Mast) (hv:StrsV W v [tDiffer,a]) (h:RdAt W B R m c f e l n D M) :
 Calls Tryz.prog 80 #[.pointer (some ⟨R,0,none⟩),v] W (ReadTold W B R m n D { M with dif:=a } 0):=by
 obtain ⟨p,cp,rfl,_,_,hc⟩:=hv
 obtain ⟨g,o,rfl,k0⟩:=hc 0 tDiffer rfl
 obtain ⟨g',o',e1,k1⟩:=hc 1 a rfl
 cases e1
 rw [Nat.add_zero] at k0
 have g0:(tDiffer.toList==[101,110,116,105,116,121])=false:=by rw [qEntity];decide
 have g1:(tDiffer.toList==[109,97,112])=false:=by rw [qMap];decide
 have g2:(tDiffer.toList==[103,114,111,117,112])=false:=by rw [qGroup];decide
 have g3:(tDiffer.toList==[114,101,115,101,114,118,101])=false:=by rw [qReserve];decide
 have gt:(tDiffer.toList==[100,105,102,102,101,114])=true:=by rw [qDiffer];decide
 have HF:Hid (RdAt (W.setCell ⟨R,6,none⟩ (.string a)) B R m c f e l n D { M with dif:=a }):=Lib.hid (rd_stored 6 _ h.box rfl h.chart h.flows h.ents h.lines h.map h.geR h.geM)
 have HB:Hid (Below B W (W.setCell ⟨R,6,none⟩ (.string a))):=Lib.hid (below_stored (Below.refl B W) h.geR 6 _)
 obtain ⟨MM,hMM⟩:∃ MM:Mast,({ M with dif:=a }:Mast)=MM:=⟨_,rfl⟩
 rw [hMM] at HF ⊢
 have hz:=h.nine.c6
 have hfz:=h.free 6
 clear hc hMM h
 go_enter Tryz.func80,Tryz.ntmps80
 go_wp2
 go_ret
 exact ⟨rfl,HB.out,fun _=>⟨_,_,_,_,HF.out⟩⟩
set_option maxRecDepth 100000 in
set_option maxHeartbeats 4000000 in
theorem keep_min (v:Value) (a:ByteArray) (W:World) (B R m n:Nat) (c f e l:Value) (D:DataW Unit) (M:Mast) (hv:StrsV W v [tMinor,a]) (h:RdAt W B R m c f e l n D M) :
 Calls Tryz.prog 80 #[.pointer (some ⟨R,0,none⟩),v] W (ReadTold W B R m n D { M with min:=a } 0):=by
 obtain ⟨p,cp,rfl,_,_,hc⟩:=hv
 obtain ⟨g,o,rfl,k0⟩:=hc 0 tMinor rfl
 obtain ⟨g',o',e1,k1⟩:=hc 1 a rfl
 cases e1
 rw [Nat.add_zero] at k0
 have g0:(tMinor.toList==[101,110,116,105,116,121])=false:=by rw [qEntity];decide
 have g1:(tMinor.toList==[109,97,112])=false:=by rw [qMap];decide
 have g2:(tMinor.toList==[103,114,111,117,112])=false:=by rw [qGroup];decide
 have g3:(tMinor.toList==[114,101,115,101,114,118,101])=false:=by rw [qReserve];decide
 have g4:(tMinor.toList==[100,105,102,102,101,114])=false:=by rw [qDiffer];decide
 have gt:(tMinor.toList==[109,105,110,111,114])=true:=by rw [qMinor];decide
 have HF:Hid (RdAt (W.setCell ⟨R,7,none⟩ (.string a)) B R m c f e l n D { M with min:=a }):=Lib.hid (rd_stored 7 _ h.box rfl h.chart h.flows h.ents h.lines h.map h.geR h.geM)
 have HB:Hid (Below B W (W.setCell ⟨R,7,none⟩ (.string a))):=Lib.hid (below_stored (Below.refl B W) h.geR 7 _)
 obtain ⟨MM,hMM⟩:∃ MM:Mast,({ M with min:=a }:Mast)=MM:=⟨_,rfl⟩
 rw [hMM] at HF ⊢
 have hz:=h.nine.c7
 have hfz:=h.free 7
 clear hc hMM h
 go_enter Tryz.func80,Tryz.ntmps80
 go_wp2
 go_ret
 exact ⟨rfl,HB.out,fun _=>⟨_,_,_,_,HF.out⟩⟩
set_option maxRecDepth 100000 in
set_option maxHeartbeats 4000000 in
theorem keep_stk (v:Value) (a:ByteArray) (W:World) (B R m n:Nat) (c f e l:Value) (D:DataW Unit) (M:Mast) (hv:StrsV W v [tStake,a]) (h:RdAt W B R m c f e l n D M) :
 Calls Tryz.prog 80 #[.pointer (some ⟨R,0,none⟩),v] W (ReadTold W B R m n D { M with stk:=a } 0):=by
 obtain ⟨p,cp,rfl,_,_,hc⟩:=hv
 obtain ⟨g,o,rfl,k0⟩:=hc 0 tStake rfl
 obtain ⟨g',o',e1,k1⟩:=hc 1 a rfl
 cases e1
 rw [Nat.add_zero] at k0
 have g0:(tStake.toList==[101,110,116,105,116,121])=false:=by rw [qEntity];decide
 have g1:(tStake.toList==[109,97,112])=false:=by rw [qMap];decide
 have g2:(tStake.toList==[103,114,111,117,112])=false:=by rw [qGroup];decide
 have g3:(tStake.toList==[114,101,115,101,114,118,101])=false:=by rw [qReserve];decide
 have g4:(tStake.toList==[100,105,102,102,101,114])=false:=by rw [qDiffer];decide
 have g5:(tStake.toList==[109,105,110,111,114])=false:=by rw [qMinor];decide
 have gt:(tStake.toList==[115,116,97,107,101])=true:=by rw [qStake];decide
 have HF:Hid (RdAt (W.setCell ⟨R,8,none⟩ (.string a)) B R m c f e l n D { M with stk:=a }):=Lib.hid (rd_stored 8 _ h.box rfl h.chart h.flows h.ents h.lines h.map h.geR h.geM)
 have HB:Hid (Below B W (W.setCell ⟨R,8,none⟩ (.string a))):=Lib.hid (below_stored (Below.refl B W) h.geR 8 _)
 obtain ⟨MM,hMM⟩:∃ MM:Mast,({ M with stk:=a }:Mast)=MM:=⟨_,rfl⟩
 rw [hMM] at HF ⊢
 have hz:=h.nine.c8
 have hfz:=h.free 8
 clear hc hMM h
 go_enter Tryz.func80,Tryz.ntmps80
 go_wp2
 go_ret
 exact ⟨rfl,HB.out,fun _=>⟨_,_,_,_,HF.out⟩⟩
end Go.Proofs.YtfhhihamndbcnaaGreatDoor.Un
end
