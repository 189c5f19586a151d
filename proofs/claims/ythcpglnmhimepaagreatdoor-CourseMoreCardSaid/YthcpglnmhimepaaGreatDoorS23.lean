/- UnitReadA -/
import Derived.Test.YthcpglnmhimepaaGreatDoorS20
import Derived.Test.YthcpglnmhimepaaGreatDoorS22
namespace Go.Proofs.YthcpglnmhimepaaGreatDoor.Un
open Go.RowKit Go.Maps
def ReadTold (W:World) (B R m n:Nat) (D:DataW Unit) (M:Mast) (E:Int) (en:Ending) (W':World):Prop :=
 en=.returned (.int .i64 E)∧Below B W W'∧(E=0→∃ c f e l,RdAt W' B R m c f e l n D M)
set_option maxRecDepth 100000 in
set_option maxHeartbeats 8000000 in
theorem readAccount_any (v:Value) (ws:List ByteArray) (W:World) (B R m n:Nat) (c f e l:Value) (D:DataW Unit) (M:Mast) (hv:StrsV W v ws) (hlaid:Laid W) (h:RdAt W B R m c f e l n D M) (hB:B≤W.heap.size) (hL:M.chart.length≤1000) :
 Calls Tryz.prog 65 #[.pointer (some ⟨R,0,none⟩),v] W (ReadTold W B R m n D { M with chart:=insL M.chart (parseA ws).1 } (if (parseA ws).2=0 then addE M.chart (parseA ws).1 else (parseA ws).2)):=by
 have HP:=Lib.hid (Go.Proofs.YthcpglnmhimepaaGreatDoor.parse_any v ws W hv hlaid)
 have HL:=Lib.hid hL
 obtain ⟨p,cp,rfl,_⟩:=hv
 obtain ⟨A,hA⟩:∃ A,(parseA ws).1=A:=⟨_,rfl⟩
 obtain ⟨E1,hE1⟩:∃ E1,(parseA ws).2=E1:=⟨_,rfl⟩
 rw [hA,hE1] at HP ⊢
 have HR:=Lib.hid h
 have HB:=Lib.hid hB
 have hAV:addE M.chart A=0→addV M.chart A=insL M.chart A:=fun h0=>by unfold addV;rw [if_pos h0]
 have HAV:=Lib.hid hAV
 obtain ⟨E2,hE2⟩:∃ E2,addE M.chart A=E2:=⟨_,rfl⟩
 obtain ⟨MV,hMV⟩:∃ MV,addV M.chart A=MV:=⟨_,rfl⟩
 have HAD:=Lib.hid (fun (X:World) (hX:ChartV X c M.chart)=>add_own c M.chart A X hX hL)
 rw [hE2] at HAV ⊢
 rw [hMV] at HAV
 simp only [hE2,hMV] at HAD
 obtain ⟨nw,hnw⟩:∃ nw,ws.length=nw:=⟨_,rfl⟩
 rw [hnw] at HP ⊢
 obtain ⟨E,hE⟩:∃ E,(if E1=0 then E2 else E1)=E:=⟨_,rfl⟩
 obtain ⟨MM,hMM⟩:∃ MM:Mast,({ M with chart:=insL M.chart A }:Mast)=MM:=⟨_,rfl⟩
 rw [hE,hMM]
 have HE:=Lib.hid hE
 have HMM:=Lib.hid hMM
 clear hA hE1 hE2 hMV h hB hL hlaid hAV hnw hE hMM
 go_enter Tryz.func65,Tryz.ntmps65
 go_wp2_with fail
 refine HP.out.mono ?_
 rintro en w1 ⟨rfl,hb1⟩
 have hb2:=hb1.alloc hb1.size (.cells #[.string A.code,.int .i64 A.cls,.bool A.cash,.bool A.both,.string A.fixed,.bool A.worn] 192)
 have HR2:=Lib.hid (HR.out.below hb2)
 have HX2:=Lib.hid (BoxA.new w1 A 192)
 have HB2:=Lib.hid (hb2.mono HB.out)
 have HS2:Hid (B≤(w1.alloc (.cells #[.string A.code,.int .i64 A.cls,.bool A.cash,.bool A.both,.string A.fixed,.bool A.worn] 192)).heap.size):=Lib.hid (Nat.le_trans HB.out hb2.size)
 clear hb1 hb2
 by_cases h0:E1=0
 ·subst h0
  obtain ⟨W2,hW2⟩:∃ W2,w1.alloc (.cells #[.string A.code,.int .i64 A.cls,.bool A.cash,.bool A.both,.string A.fixed,.bool A.worn] 192)=W2:=⟨_,rfl⟩
  rw [hW2] at HR2 HX2 HB2 HS2
  go_wp2_with fail
  clear hW2
  obtain ⟨k0,k1,k2,k3,k4,k5,k6,k7,k8⟩:=(show NineAt W2.drew R c f e l M from HR2.out.nine.kept ⟨rfl,rfl,rfl,Nat.le_refl _,fun _ _=>rfl⟩)
  obtain ⟨j0,j1,j2,j3,j4,j5⟩:=(show BoxA W2.drew w1.heap.size 192 A from HX2.out).facts
  have HCV:Hid (ChartV W2.drew c M.chart):=Lib.hid ((chart_of_own HR2.out.chart).keep ⟨rfl,rfl,rfl,Nat.le_refl _,fun _ _=>rfl⟩)
  clear k1 k2 k3 k4 k5 k6 k7 k8
  go_region_with (first
   | (go_at_call 102;refine (HAD.out W2.drew HCV.out).mono ?_;rintro en w3 ⟨v9,rfl,ho9,hb9⟩;obtain ⟨p9,c9,rfl,_,_⟩:=chart_of_own ho9;have HR3:=Lib.hid (RdAt.below (W:=W2.drew) (HR2.out.below (W':=W2.drew) ⟨rfl,rfl,rfl,Nat.le_refl _,fun _ _=>rfl⟩) hb9);have hz:=HR3.out.nine.c0;have hfz:=HR3.out.free 0)
   | fail)
  all_goals
   have HE2:Hid (E2=E):=Lib.hid (by rw [←HE.out,if_pos (by trivial)])
   have HFIN:Hid (E=0→RdAt (w3.setCell ⟨R,0,none⟩ (.slice p9 MV.length c9)) B R m (.slice p9 MV.length c9) f e l n D MM):=Lib.hid (fun h0=>by
    have hmv:=HAV.out (by rw [HE2.out];exact h0)
    rw [←HMM.out]
    refine rd_stored 0 _ HR3.out.box rfl ?_ HR3.out.flows HR3.out.ents HR3.out.lines HR3.out.map HR3.out.geR HR3.out.geM
    show w3.ownsRow B _ 6 _ (insL M.chart A).length (flatA (insL M.chart A))
    rw [←hmv]
    exact row_base ho9 HS2.out)
   have HBF:Hid (Below B W (w3.setCell ⟨R,0,none⟩ (.slice p9 MV.length c9))):=Lib.hid (below_stored (HB2.out.trans ((below_undrawn hb9).mono HS2.out)) HR3.out.geR 0 _)
   clear ho9 hb9 hz hfz
   go_wp2
   go_ret
   exact ⟨by rw [←HE2.out];rfl,HBF.out,fun h0=>⟨_,_,_,_,HFIN.out h0⟩⟩
 ·have HE2:Hid (E1=E∧E≠0):=Lib.hid (by have:=HE.out;rw [if_neg h0] at this;exact ⟨this,by rw [←this];exact h0⟩)
  go_wp2
  go_ret
  exact ⟨by rw [←HE2.out.1];rfl,HB2.out,fun h1=>absurd h1 HE2.out.2⟩
end Go.Proofs.YthcpglnmhimepaaGreatDoor.Un
