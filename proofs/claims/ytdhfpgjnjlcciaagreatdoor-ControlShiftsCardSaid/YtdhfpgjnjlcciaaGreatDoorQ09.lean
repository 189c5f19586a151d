/- FlowWords FlowParse UnitReadF UnitKeyOf UnitKeepS UnitRead UnitReadB UnitCheckL -/
import Derived.BigRegion
import Derived.Test.YtdhfpgjnjlcciaaGreatDoorQ08
section
namespace Go.Proofs.YtdhfpgjnjlcciaaGreatDoor.Fl
open Go.RowKit
structure Laid (w:World):Prop where
 g0:w.cell? ⟨2,0,none⟩=some (.string tOpen)
 g1:w.cell? ⟨2,1,none⟩=some (.string tMove)
 g2:w.cell? ⟨2,2,none⟩=some (.string tFx)
 g3:w.cell? ⟨2,3,none⟩=some (.string tScope)
 g4:w.cell? ⟨2,4,none⟩=some (.string tClose)
theorem Laid.below {w w':World} {B:Nat} (h:Laid w) (hb:Below B w w') (hB:w.heap.size≤B):Laid w' :=
 have lt:=Nat.lt_of_lt_of_le (World.block_lt_of_cell? w _ h.g0) hB
 ⟨(hb.cell (p:=⟨_,0,none⟩) lt).trans h.g0,(hb.cell (p:=⟨_,1,none⟩) lt).trans h.g1,(hb.cell (p:=⟨_,2,none⟩) lt).trans h.g2,(hb.cell (p:=⟨_,3,none⟩) lt).trans h.g3,(hb.cell (p:=⟨_,4,none⟩) lt).trans h.g4⟩
theorem Laid.drew {w:World} (h:Laid w):Laid w.drew:=⟨h.g0,h.g1,h.g2,h.g3,h.g4⟩
theorem QD (w:World):(Instr.index 306 (.agg #[.string tOpen,.string tMove,.string tFx,.string tScope,.string tClose]) (.int .i64 0)).run Tryz.prog w=.ok (.string tOpen) w:=by kernel_rfl
theorem Yc (w:World):(Instr.index 306 (.agg #[.string tOpen,.string tMove,.string tFx,.string tScope,.string tClose]) (.int .i64 1)).run Tryz.prog w=.ok (.string tMove) w:=by kernel_rfl
theorem Ql (w:World):(Instr.index 306 (.agg #[.string tOpen,.string tMove,.string tFx,.string tScope,.string tClose]) (.int .i64 2)).run Tryz.prog w=.ok (.string tFx) w:=by kernel_rfl
theorem zeq (w:World):(Instr.index 306 (.agg #[.string tOpen,.string tMove,.string tFx,.string tScope,.string tClose]) (.int .i64 3)).run Tryz.prog w=.ok (.string tScope) w:=by kernel_rfl
theorem zbp (w:World):(Instr.index 306 (.agg #[.string tOpen,.string tMove,.string tFx,.string tScope,.string tClose]) (.int .i64 4)).run Tryz.prog w=.ok (.string tClose) w:=by kernel_rfl
theorem yY {a b:Int} (h:a=b):Ending.returned (.int .i64 a)=.returned (.int .i64 b):=by rw [h]
theorem zgh {s:ByteArray} (h0:tOpen≠s) (h1:tMove≠s) (h2:tFx≠s) (h3:tScope≠s) (h4:tClose≠s):kindO s=-1:=by
 unfold kindO
 rw [if_neg (fun e=>h0 e.symm),if_neg (fun e=>h1 e.symm),if_neg (fun e=>h2 e.symm),if_neg (fun e=>h3 e.symm),if_neg (fun e=>h4 e.symm)]
set_option maxRecDepth 100000 in
set_option maxHeartbeats 4000000 in
theorem XC (s:ByteArray) (w:World) (hL:Laid w) :
 Calls Tryz.prog 170 #[.string s] w fun e w'=>e=.returned (.int .i64 (kindO s))∧w=w':=by
 obtain ⟨g0,g1,g2,g3,g4⟩:=hL
 obtain ⟨r,hr⟩:∃ r,kindO s=r:=⟨_,rfl⟩
 rw [hr]
 have HR:=Lib.hid hr
 clear hr
 obtain ⟨A,hA⟩:∃ A,tOpen=A:=⟨_,rfl⟩
 obtain ⟨B,hB⟩:∃ B,tMove=B:=⟨_,rfl⟩
 obtain ⟨C,hC⟩:∃ C,tFx=C:=⟨_,rfl⟩
 obtain ⟨D,hD⟩:∃ D,tScope=D:=⟨_,rfl⟩
 obtain ⟨E,hE⟩:∃ E,tClose=E:=⟨_,rfl⟩
 have i0:=QD
 have i1:=Yc
 have i2:=Ql
 have i3:=zeq
 have i4:=zbp
 rw [hA] at g0
 rw [hB] at g1
 rw [hC] at g2
 rw [hD] at g3
 rw [hE] at g4
 rw [hA,hB,hC,hD,hE] at i0 i1 i2 i3 i4
 have HA:=Lib.hid hA
 have HBB:=Lib.hid hB
 have HCC:=Lib.hid hC
 have HDD:=Lib.hid hD
 have HEE:=Lib.hid hE
 clear hA hB hC hD hE
 cases hs0:(A.toList==s.toList) with
 | true =>
   have HS:=Lib.hid ((Lib.bytes_beq_iff A s).1 hs0)
   go_enter Tryz.func170,Tryz.ntmps170
   go_wp2
   refine wp_loop_rounds 1 ?_
   rw [rounds_succ]
   go_wp2
   go_ret
   exact ⟨yY (by rw [←HR.out,←HS.out,←HA.out];decide),rfl⟩
 | false =>
   have HS:=Lib.hid ((Lib.bytes_beq_false_iff A s).1 hs0)
   cases hs1:(B.toList==s.toList) with
   | true =>
     have HS1:=Lib.hid ((Lib.bytes_beq_iff B s).1 hs1)
     go_enter Tryz.func170,Tryz.ntmps170
     go_wp2
     refine wp_loop_rounds 2 ?_
     rw [rounds_succ]
     go_wp2
     rw [rounds_succ]
     go_wp2
     go_ret
     exact ⟨yY (by rw [←HR.out,←HS1.out,←HBB.out];decide),rfl⟩
   | false =>
     have HS1:=Lib.hid ((Lib.bytes_beq_false_iff B s).1 hs1)
     cases hs2:(C.toList==s.toList) with
     | true =>
       have HS2:=Lib.hid ((Lib.bytes_beq_iff C s).1 hs2)
       go_enter Tryz.func170,Tryz.ntmps170
       go_wp2
       refine wp_loop_rounds 3 ?_
       rw [rounds_succ]
       go_wp2
       rw [rounds_succ]
       go_wp2
       rw [rounds_succ]
       go_wp2
       go_ret
       exact ⟨yY (by rw [←HR.out,←HS2.out,←HCC.out];decide),rfl⟩
     | false =>
       have HS2:=Lib.hid ((Lib.bytes_beq_false_iff C s).1 hs2)
       cases hs3:(D.toList==s.toList) with
       | true =>
         have HS3:=Lib.hid ((Lib.bytes_beq_iff D s).1 hs3)
         go_enter Tryz.func170,Tryz.ntmps170
         go_wp2
         refine wp_loop_rounds 4 ?_
         rw [rounds_succ]
         go_wp2
         rw [rounds_succ]
         go_wp2
         rw [rounds_succ]
         go_wp2
         rw [rounds_succ]
         go_wp2
         go_ret
         exact ⟨yY (by rw [←HR.out,←HS3.out,←HDD.out];decide),rfl⟩
       | false =>
         have HS3:=Lib.hid ((Lib.bytes_beq_false_iff D s).1 hs3)
         cases hs4:(E.toList==s.toList) with
         | true =>
           have HS4:=Lib.hid ((Lib.bytes_beq_iff E s).1 hs4)
           go_enter Tryz.func170,Tryz.ntmps170
           go_wp2
           refine wp_loop_rounds 5 ?_
           rw [rounds_succ]
           go_wp2
           rw [rounds_succ]
           go_wp2
           rw [rounds_succ]
           go_wp2
           rw [rounds_succ]
           go_wp2
           rw [rounds_succ]
           go_wp2
           go_ret
           exact ⟨yY (by rw [←HR.out,←HS4.out,←HEE.out];decide),rfl⟩
         | false =>
           have HS4:=Lib.hid ((Lib.bytes_beq_false_iff E s).1 hs4)
           have hres:Hid (r=-1):=Lib.hid (by
            rw [←HR.out]
            exact zgh (by rw [HA.out];exact HS.out) (by rw [HBB.out];exact HS1.out) (by rw [HCC.out];exact HS2.out) (by rw [HDD.out];exact HS3.out) (by rw [HEE.out];exact HS4.out))
           go_enter Tryz.func170,Tryz.ntmps170
           go_wp2
           refine wp_loop_rounds 6 ?_
           rw [rounds_succ]
           go_wp2
           rw [rounds_succ]
           go_wp2
           rw [rounds_succ]
           go_wp2
           rw [rounds_succ]
           go_wp2
           rw [rounds_succ]
           go_wp2
           rw [rounds_succ]
           go_wp2
           go_ret
           exact ⟨yY hres.out.symm,rfl⟩
theorem zbG (w:World) (x y z:ByteArray) (t:TypeId):StrsV (w.alloc (.cells #[.string x,.string y,.string z] t)) (.slice (some ⟨w.heap.size,0,none⟩) 3 3) [x,y,z] :=
 YJ w [x,y,z] t (by show 3≤_;unfold maxLen;omega)
theorem below_drewN' {B:Nat} {a w:World} (h:Below B a w) (n:Nat):Below B a (w.drewN n):=⟨h.os,h.tape,h.output,h.size,h.block⟩
theorem Vd {B:Nat} {a w:World} (h:Below B a w):Below B a w.drew:=⟨h.os,h.tape,h.output,h.size,h.block⟩
end Go.Proofs.YtdhfpgjnjlcciaaGreatDoor.Fl
end
section
namespace Go.Proofs.YtdhfpgjnjlcciaaGreatDoor.Fl
open Go.RowKit
theorem jT {w w':World} {p:Addr} {v:Value} (hb:Below w.heap.size w w') (h:w.cell? p=some v):w'.cell? p=some v:=(hb.cell (World.block_lt_of_cell? w _ h)).trans h
abbrev zc:Array Value:=#[.string ⟨#[]⟩,.int .i64 0]
theorem zcm:tFlow.toList=[102,108,111,119]:=by rw [ByteArray.toList_eq];rfl
theorem KN (x:ByteArray):(x.toList==[102,108,111,119])=decide (x=tFlow):=by
 rw [←zcm]
 cases h:(x.toList==tFlow.toList) with
 | true=>rw [decide_eq_true ((Lib.bytes_beq_iff x tFlow).1 h)]
 | false=>rw [decide_eq_false ((Lib.bytes_beq_false_iff x tFlow).1 h)]
def jx (w wx:World) (A:Flow):Prop:=BoxE encF wx (w.heap.size+1) 81 A∧Below (w.heap.size+1) (w.alloc (.cells zc 81)) wx
set_option maxRecDepth 100000 in
set_option maxHeartbeats 8000000 in
theorem yc (v:Value) (ws:List ByteArray) (w:World) (h:StrsV w v ws) (hL:Laid w) :
 Calls Tryz.prog 125 #[v] w fun e w'=>e=.returned (.tuple #[aggL (parseF ws).1,.int .i64 (parseF ws).2])∧Below w.heap.size w w':=by
 have HV:=Lib.hid h
 obtain ⟨p,c,rfl,hcap,hm,hc⟩:=h
 have HB0:=Lib.hid ((Below.refl w.heap.size w).alloc (Nat.le_refl _) (.cells zc 81))
 have HX0:=Lib.hid (BoxE.new encF w zeroF 81)
 by_cases h3:ws.length=3
 ·match ws,h3 with
  | [x0,x1,x2],_ =>
    obtain ⟨b,o,rfl,k0'⟩:=hc 0 x0 rfl
    obtain ⟨b',o',e',k1⟩:=hc 1 x1 rfl
    cases e'
    obtain ⟨b',o',e',k2⟩:=hc 2 x2 rfl
    cases e'
    have k0:w.cell? ⟨b,o,none⟩=some (.string x0):=k0'
    have j0:=jT HB0.out k0
    have j1:=jT HB0.out k1
    have j2:=jT HB0.out k2
    have HNB:Hid (b≠w.heap.size):=Lib.hid (by have:=World.block_lt_of_cell? w _ k0;simp at this;omega)
    have HLT:Hid (b < w.heap.size):=Lib.hid (World.block_lt_of_cell? w _ k0)
    have HL0:=Lib.hid (hL.below HB0.out (Nat.le_refl _))
    rw [zav]
    obtain ⟨A,hA⟩:∃ A:Flow,(⟨x1,kindO x2⟩:Flow)=A:=⟨_,rfl⟩
    rw [hA]
    have HA:=Lib.hid hA
    clear hc hA k0' k0 k1 k2 hL hm hcap HV
    show Calls _ _ #[.slice (some ⟨b,o,none⟩) 3 c] _ _
    obtain ⟨W0,hW0⟩:∃ W0,w.alloc (.cells zc 81)=W0:=⟨_,rfl⟩
    have HSZ:Hid (W0.heap.size=w.heap.size+1):=Lib.hid (by rw [←hW0];simp)
    have HX1:Hid (BoxE encF W0 w.heap.size 81 zeroF):=Lib.hid (by rw [←hW0];exact HX0.out)
    rw [hW0] at HB0 HL0 j0 j1 j2
    clear HX0
    cases hx0:(x0.toList==[102,108,111,119]) with
    | false =>
      have hne:¬ (x0=tFlow∧rightF A=true):=fun e=>by
       rw [KN,e.1] at hx0;simp at hx0
      rw [if_neg hne]
      have hxn:(!x0.toList==[102,108,111,119])=true:=by rw [hx0];rfl
      clear hne hx0
      go_enter Tryz.func125,Tryz.ntmps125
      go_wp2_with (refine zY (E:=encF) rfl 81 (.tmp 2) (.tmp 14) rfl w.heap.size zeroF zeroF 81 rfl rfl HX1.out (by kernel_rfl) ?_;intro w8 hb8 hg8)
      have HF:=Lib.hid (HB0.out.grown hg8 HB0.out.size (fun j hj=>by cases hj;exact Nat.le_refl _))
      obtain ⟨t0,t1⟩:=box hb8
      clear hb8 hg8
      refine bodyPost_ret (v:=.tuple #[aggL zeroF,.int .i64 5]) (by simp [results,Tryz.results125,go_sem,t0,t1]) rfl ⟨rfl,HF.out⟩
    | true =>
      have hx:x0=tFlow:=by rw [KN] at hx0;exact of_decide_eq_true hx0
      have hxn:(!x0.toList==[102,108,111,119])=false:=by rw [hx0];rfl
      have HE:Hid (∀ r,rightF A=r→(if x0=tFlow∧rightF A=true then (A,(0:Int)) else (zeroF,5))=if r=true then (A,0) else (zeroF,5)):=Lib.hid (fun r hr=>by
       rw [hr];cases r <;> simp [hx])
      obtain ⟨R,hR⟩:∃ R,(if x0=tFlow∧rightF A=true then (A,(0:Int)) else (zeroF,5))=R:=⟨_,rfl⟩
      rw [hR] at HE ⊢
      clear hR hx hx0
      go_enter Tryz.func125,Tryz.ntmps125
      go_upto_region 3 with (fail)
      have HW0:=Lib.hid hW0
      clear hW0 j0
      go_cut [4] (fun s4 wx=>s4=.pointer (some ⟨w.heap.size+1,0,none⟩)∧jx w wx A)
      case first =>
       have hba:=(Below.refl W0.heap.size W0).alloc (Nat.le_refl _) (.cells zc 81)
       have n1:=jT hba j1
       have n2:=jT hba j2
       have y1:W0.drew.cell? ⟨b,o+1,none⟩=some (.string x1):=j1
       have y2:W0.drew.cell? ⟨b,o+2,none⟩=some (.string x2):=j2
       have z1:(W0.alloc (.cells zc 81)).drew.cell? ⟨b,o+1,none⟩=some (.string x1):=n1
       have z2:(W0.alloc (.cells zc 81)).drew.cell? ⟨b,o+2,none⟩=some (.string x2):=n2
       have HLa:=Lib.hid (HL0.out.below hba (Nat.le_refl _))
       have hbl:=fun C:Array Value=>(Below.refl W0.heap.size W0).alloc (Nat.le_refl _) (.cells C 81)
       have p1:=fun C:Array Value=>jT (hbl C) j1
       have p2:=fun C:Array Value=>jT (hbl C) j2
       clear hba hbl
       go_region_held3 (fun w'=>w'.cell? ⟨b,o+1,none⟩=some (.string x1)∧w'.cell? ⟨b,o+2,none⟩=some (.string x2))
        (first | (with_reducible exact ⟨j1,j2⟩) | (with_reducible exact ⟨y1,y2⟩) | (with_reducible exact ⟨n1,n2⟩) | (with_reducible exact ⟨z1,z2⟩) | exact ⟨p1 _,p2 _⟩ | fail)
        (first
         | (go_at_call 170;refine (XC x2 W0.drew HL0.out.drew).mono ?_;rintro e w' ⟨rfl,rfl⟩)
         | (go_at_call 170;refine (XC x2 (W0.alloc (.cells zc 81)).drew HLa.out.drew).mono ?_;rintro e w' ⟨rfl,rfl⟩)
         | fail)
       all_goals
        go_wp2_with fail
        go_meet
        case rel =>
         refine ⟨by rw [←HSZ.out],?_⟩
         exact ⟨by rw [←HSZ.out,←HA.out];exact BoxE.new encF W0 ⟨x1,kindO x2⟩ 81,by rw [HW0.out,←HSZ.out];exact Vd ((Below.refl W0.heap.size W0).alloc (Nat.le_refl _) _)⟩
      case rest =>
       obtain ⟨rfl,hP⟩:=hcut
       rename World=>wx
       obtain ⟨hx,hb⟩:=hP
       rw [HW0.out] at hb
       rw [←HSZ.out] at hb
       have HXR:=Lib.hid (HX1.out.keep hb (by rw [HSZ.out];omega))
       have HBX:=Lib.hid (HB0.out.trans (hb.mono (by rw [HSZ.out];omega)))
       have HX:=Lib.hid hx
       obtain ⟨d0,d1⟩:=box hx
       have hlt:w.heap.size < wx.heap.size:=by have:=hb.size;rw [HSZ.out] at this;omega
       have hgx:=hx.lt
       obtain ⟨r,hr⟩:∃ r,rightF A=r:=⟨_,rfl⟩
       have HRA:=Lib.hid (jr A)
       rw [hr] at HRA
       have HER:=Lib.hid (HE.out r hr)
       clear hx hb j1 j2 hr
       go_wp2_with fail
       clear d0 d1
       refine (HRA.out wx).mono ?_
       rintro e w7 ⟨rfl,hb7⟩
       have HXR7:=Lib.hid (HXR.out.keep hb7 hlt)
       have HX7:=Lib.hid (HX.out.keep hb7 hgx)
       have HB7:=Lib.hid (HBX.out.trans (hb7.mono HBX.out.size))
       clear hb7
       cases r with
       | true =>
         obtain ⟨d0,d1⟩:=box HX7.out
         go_wp2_with (refine zY (E:=encF) rfl 81 (.tmp 2) (.tmp 27) rfl w.heap.size zeroF A 81 rfl rfl HXR7.out (by kernel_rfl) ?_;intro w8 hb8 hg8)
         have HF:=Lib.hid (HB7.out.grown hg8 HB7.out.size (fun j hj=>by cases hj;exact Nat.le_refl _))
         obtain ⟨t0,t1⟩:=box hb8
         clear hb8 hg8
         refine bodyPost_ret (v:=.tuple #[aggL A,.int .i64 0]) (by simp [results,Tryz.results125,go_sem,t0,t1]) rfl ⟨by rw [HER.out];rfl,HF.out⟩
       | false =>
         go_wp2_with (refine zY (E:=encF) rfl 81 (.tmp 2) (.tmp 26) rfl w.heap.size zeroF zeroF 81 rfl rfl HXR7.out (by kernel_rfl) ?_;intro w8 hb8 hg8)
         have HF:=Lib.hid (HB7.out.grown hg8 HB7.out.size (fun j hj=>by cases hj;exact Nat.le_refl _))
         obtain ⟨t0,t1⟩:=box hb8
         clear hb8 hg8
         refine bodyPost_ret (v:=.tuple #[aggL zeroF,.int .i64 5]) (by simp [results,Tryz.results125,go_sem,t0,t1]) rfl ⟨by rw [HER.out];rfl,HF.out⟩
 ·have HP:=Lib.hid (zac h3)
  rw [HP.out]
  obtain ⟨n,hn⟩:∃ n,ws.length=n:=⟨_,rfl⟩
  rw [hn] at h3 hcap hm ⊢
  unfold maxLen at hm
  have hnz:((n:Int) != 3)=true:=by simp;omega
  clear hc hn h3 HV
  go_enter Tryz.func125,Tryz.ntmps125
  go_wp2
  refine bodyPost_ret (v:=.tuple #[aggL zeroF,.int .i64 5]) (by simp [results,Tryz.results125,go_sem,zeroF]) rfl ⟨rfl,HB0.out⟩
end Go.Proofs.YtdhfpgjnjlcciaaGreatDoor.Fl
end
section
namespace Go.Proofs.YtdhfpgjnjlcciaaGreatDoor.Un
open Go.RowKit Go.Maps
set_option maxRecDepth 100000 in
set_option maxHeartbeats 8000000 in
theorem zgI (v:Value) (ws:List ByteArray) (W:World) (B R m n:Nat) (c f e l:Value) (D:DataW Unit) (M:Mast) (hv:StrsV W v ws) (hlaid:Fl.Laid W) (h:RdAt W B R m c f e l n D M) (hB:B≤W.heap.size) (hL:M.flows.length≤1000) (hri:riseK Fl.Flow.code M.flows=true) :
 Calls Tryz.prog 87 #[.pointer (some ⟨R,0,none⟩),v] W (qQ W B R m n D { M with flows:=insK Fl.Flow.code M.flows (Fl.parseF ws).1 } (if (Fl.parseF ws).2=0 then Fl.addE M.flows (Fl.parseF ws).1 else (Fl.parseF ws).2)):=by
 have HP:=Lib.hid (Fl.yc v ws W hv hlaid)
 have HL:=Lib.hid hL
 obtain ⟨p,cp,rfl,_⟩:=hv
 obtain ⟨A,hA⟩:∃ A,(Fl.parseF ws).1=A:=⟨_,rfl⟩
 obtain ⟨E1,hE1⟩:∃ E1,(Fl.parseF ws).2=E1:=⟨_,rfl⟩
 rw [hA,hE1] at HP ⊢
 have HR:=Lib.hid h
 have HB:=Lib.hid hB
 have hAV:Fl.addE M.flows A=0→Fl.addV M.flows A=insK Fl.Flow.code M.flows A:=fun h0=>by unfold Fl.addV;rw [if_pos h0]
 have HAV:=Lib.hid hAV
 obtain ⟨E2,hE2⟩:∃ E2,Fl.addE M.flows A=E2:=⟨_,rfl⟩
 obtain ⟨MV,hMV⟩:∃ MV,Fl.addV M.flows A=MV:=⟨_,rfl⟩
 have HAD:=Lib.hid (fun (X:World) (hX:Fl.FlowsV X f M.flows)=>Fl.QI f M.flows A X hX hri hL)
 rw [hE2] at HAV ⊢
 rw [hMV] at HAV
 simp only [hE2,hMV] at HAD
 obtain ⟨nw,hnw⟩:∃ nw,ws.length=nw:=⟨_,rfl⟩
 rw [hnw] at HP ⊢
 obtain ⟨E,hE⟩:∃ E,(if E1=0 then E2 else E1)=E:=⟨_,rfl⟩
 obtain ⟨MM,hMM⟩:∃ MM:Mast,({ M with flows:=insK Fl.Flow.code M.flows A }:Mast)=MM:=⟨_,rfl⟩
 rw [hE,hMM]
 have HE:=Lib.hid hE
 have HMM:=Lib.hid hMM
 clear hA hE1 hE2 hMV h hB hL hri hlaid hAV hnw hE hMM
 go_enter Tryz.func87,Tryz.ntmps87
 go_wp2_with fail
 refine HP.out.mono ?_
 rintro en w1 ⟨rfl,hb1⟩
 have hb2:=hb1.alloc hb1.size (.cells #[.string A.code,.int .i64 A.kind] 81)
 have HR2:=Lib.hid (HR.out.below hb2)
 have HX2:=Lib.hid (BoxE.new Fl.encF w1 A 81)
 have HB2:=Lib.hid (hb2.mono HB.out)
 have HS2:Hid (B≤(w1.alloc (.cells #[.string A.code,.int .i64 A.kind] 81)).heap.size):=Lib.hid (Nat.le_trans HB.out hb2.size)
 clear hb1 hb2
 by_cases h0:E1=0
 ·subst h0
  obtain ⟨W2,hW2⟩:∃ W2,w1.alloc (.cells #[.string A.code,.int .i64 A.kind] 81)=W2:=⟨_,rfl⟩
  rw [hW2] at HR2 HX2 HB2 HS2
  go_wp2_with fail
  clear hW2
  obtain ⟨k0,k1,k2,k3,k4,k5,k6,k7,k8⟩:=(show NineAt W2.drew R c f e l M from HR2.out.nine.kept ⟨rfl,rfl,rfl,Nat.le_refl _,fun _ _=>rfl⟩)
  obtain ⟨j0,j1⟩:=Fl.box (show BoxE Fl.encF W2.drew w1.heap.size 81 A from HX2.out)
  have HCV:Hid (Fl.FlowsV W2.drew f M.flows):=Lib.hid (ElsV.keep (w:=W2) (zq HR2.out.flows) ⟨rfl,rfl,rfl,Nat.le_refl _,fun _ _=>rfl⟩)
  clear k0 k2 k3 k4 k5 k6 k7 k8
  go_region_with (first
   | (go_at_call 126;refine (HAD.out W2.drew HCV.out).mono ?_;rintro en w3 ⟨v9,rfl,ho9,hb9⟩;obtain ⟨p9,c9,rfl,_,_⟩:=zq ho9;have HR3:=Lib.hid (RdAt.below (W:=W2.drew) (HR2.out.below (W':=W2.drew) ⟨rfl,rfl,rfl,Nat.le_refl _,fun _ _=>rfl⟩) hb9);have hz:=HR3.out.nine.c1;have hfz:=HR3.out.free 1)
   | fail)
  all_goals
   have HE2:Hid (E2=E):=Lib.hid (by rw [←HE.out,if_pos (by trivial)])
   have HFIN:Hid (E=0→RdAt (w3.setCell ⟨R,1,none⟩ (.slice p9 MV.length c9)) B R m c (.slice p9 MV.length c9) e l n D MM):=Lib.hid (fun h0=>by
    have hmv:=HAV.out (by rw [HE2.out];exact h0)
    rw [←HMM.out]
    refine jP 1 _ HR3.out.box rfl HR3.out.chart ?_ HR3.out.ents HR3.out.lines HR3.out.map HR3.out.geR HR3.out.geM
    show w3.ownsRow B _ 2 _ (insK Fl.Flow.code M.flows A).length (flat Fl.encF (insK Fl.Flow.code M.flows A))
    rw [←hmv]
    exact zw ho9 HS2.out)
   have HBF:Hid (Below B W (w3.setCell ⟨R,1,none⟩ (.slice p9 MV.length c9))):=Lib.hid (jw (HB2.out.trans ((yU hb9).mono HS2.out)) HR3.out.geR 1 _)
   clear ho9 hb9 hz hfz
   go_wp2
   go_ret
   exact ⟨by rw [←HE2.out];rfl,HBF.out,fun h0=>⟨_,_,_,_,HFIN.out h0⟩⟩
 ·have HE2:Hid (E1=E∧E≠0):=Lib.hid (by have:=HE.out;rw [if_neg h0] at this;exact ⟨this,by rw [←this];exact h0⟩)
  go_wp2
  go_ret
  exact ⟨by rw [←HE2.out.1];rfl,HB2.out,fun h1=>absurd h1 HE2.out.2⟩
end Go.Proofs.YtdhfpgjnjlcciaaGreatDoor.Un
end
section
namespace Go.Proofs.YtdhfpgjnjlcciaaGreatDoor.Un
open Go.RowKit
abbrev encK:Enc (ByteArray × ByteArray × ByteArray):=⟨fun e=>[.string e.1,.string e.2.1,.string e.2.2],3,fun _=>rfl,by decide,fun _ v hv=>by simp at hv;rcases hv with rfl | rfl | rfl <;> rfl⟩
theorem key3 {w:World} {b:Nat} {t:TypeId} {x y z:ByteArray} (h:BoxE encK w b t (x,y,z)):w.cell? ⟨b,0,none⟩=some (.string x)∧w.cell? ⟨b,1,none⟩=some (.string y)∧w.cell? ⟨b,2,none⟩=some (.string z):=⟨h.at0 0 _ rfl,h.at0 1 _ rfl,h.at0 2 _ rfl⟩
set_option maxRecDepth 100000 in
set_option maxHeartbeats 2000000 in
theorem zd6 (v:Value) (ws:List ByteArray) (w:World) (h:StrsV w v ws) (hf:zj ws=true) :
 Calls Tryz.prog 89 #[v] w fun en w'=>en=.returned (aggK (wd ws 0) (keyB ws) (keyC ws))∧Below w.heap.size w w':=by
 have HB0:=Lib.hid ((Below.refl w.heap.size w).alloc (Nat.le_refl _) (.cells #[.string emp,.string emp,.string emp] 182))
 have HX0:=Lib.hid (BoxE.new encK w (emp,emp,emp) 182)
 have h1:=h.keep HB0.out
 obtain ⟨p,c,rfl,hcap,hm,hc⟩:=h1
 unfold maxLen at hm
 have fin:∀ (w1:World) (a b d:ByteArray),BoxE encK w1 w.heap.size 182 (a,b,d)→(w.alloc (.cells #[.string emp,.string emp,.string emp] 182)).grownBy w1 (some w.heap.size)→Below w.heap.size w w1:=fun w1 a b d _ hg=>HB0.out.grown hg HB0.out.size (fun k hk=>by cases hk;exact Nat.le_refl _)
 have HF:=Lib.hid fin
 clear fin
 rcases jk hf with ⟨h0,a,b,rfl,ha,hb⟩ | ⟨h0,a,b,d,rfl,ha,hb,hd⟩ | ⟨h0,a,h2,ha⟩
 ·obtain ⟨g,o,rfl,k0⟩:=hc 0 zm rfl
  obtain ⟨g',o',e1,k1⟩:=hc 1 a rfl
  cases e1
  rw [Nat.add_zero] at k0
  have g1:(zm.toList==[101,110,116,105,116,121])=true:=by rw [qo];decide
  have HK:Hid (aggK (wd [zm,a,b] 0) (keyB [zm,a,b]) (keyC [zm,a,b])=aggK ⟨#[101,110,116,105,116,121]⟩ a emp):=Lib.hid rfl
  rw [HK.out]
  clear hc h0 hf h
  go_enter Tryz.func89,Tryz.ntmps89
  go_wp2_with (refine zY (E:=encK) rfl 182 (.tmp 2) (.tmp 11) rfl w.heap.size (emp,emp,emp) (⟨#[101,110,116,105,116,121]⟩,a,emp) 182 rfl rfl HX0.out (by kernel_rfl) ?_;intro w2 hb2 hg2)
  have HF2:=Lib.hid (HF.out _ _ _ _ hb2 hg2)
  obtain ⟨d0,d1,d2⟩:=key3 hb2
  clear hb2 hg2
  exact bodyPost_ret (v:=aggK ⟨#[101,110,116,105,116,121]⟩ a emp) (by simp [results,Tryz.results89,go_sem,d0,d1,d2]) rfl ⟨rfl,HF2.out⟩
 ·obtain ⟨g,o,rfl,k0⟩:=hc 0 tMap rfl
  obtain ⟨g',o',e1,k1⟩:=hc 1 a rfl
  cases e1
  obtain ⟨g',o',e1,k2⟩:=hc 2 b rfl
  cases e1
  rw [Nat.add_zero] at k0
  have g1:(tMap.toList==[101,110,116,105,116,121])=false:=by rw [qo];decide
  have g2:(tMap.toList==[109,97,112])=true:=by rw [qMap];decide
  have HK:Hid (aggK (wd [tMap,a,b,d] 0) (keyB [tMap,a,b,d]) (keyC [tMap,a,b,d])=aggK ⟨#[109,97,112]⟩ a b):=Lib.hid rfl
  rw [HK.out]
  clear hc h0 hf h
  obtain ⟨W,hW⟩:∃ W,w.alloc (.cells #[.string emp,.string emp,.string emp] 182)=W:=⟨_,rfl⟩
  rw [hW] at HB0 HX0 HF k0 k1 k2
  go_enter Tryz.func89,Tryz.ntmps89
  go_wp2_with fail
  clear hW
  obtain ⟨W2,hW2⟩:∃ W2,W.drew=W2:=⟨_,rfl⟩
  have j1:W2.cell? ⟨g,o+1,none⟩=some (.string a):=by rw [←hW2];exact k1
  have j2:W2.cell? ⟨g,o+2,none⟩=some (.string b):=by rw [←hW2];exact k2
  have HX2:Hid (BoxE encK W2 w.heap.size 182 (emp,emp,emp)):=Lib.hid (by rw [←hW2];exact HX0.out)
  have HG2:Hid (W.grownBy W2 (some w.heap.size)):=Lib.hid (by rw [←hW2];exact ⟨rfl,rfl,rfl,Nat.le_refl _,fun _ _ _=>rfl⟩)
  refine wp_region_still_tail 7 (by kernel_rfl) (by kernel_rfl) ?_
  simp only [List.take_succ_cons,List.take_zero,List.drop_succ_cons,List.drop_zero]
  rw [show ({ heap:=W.heap,tape:=W.tape,drawn:=W.drawn+1,os:=W.os,output:=W.output }:World)=W2 from hW2]
  clear hW2 k0 k1 k2
  repeat still_step
  refine wpStill_nil ?_
  clear j1 j2
  go_wp2_with (refine zY (E:=encK) rfl 182 (.tmp 2) (.tmp 20) rfl w.heap.size (emp,emp,emp) (⟨#[109,97,112]⟩,a,b) 182 rfl rfl HX2.out (by kernel_rfl) ?_;intro w2 hb2 hg2)
  have HF2:=Lib.hid (HF.out _ _ _ _ hb2 (HG2.out.trans hg2))
  obtain ⟨d0,d1,d2⟩:=key3 hb2
  clear hb2 hg2
  exact bodyPost_ret (v:=aggK ⟨#[109,97,112]⟩ a b) (by simp [results,Tryz.results89,go_sem,d0,d1,d2]) rfl ⟨rfl,HF2.out⟩
 ·obtain ⟨x,hx⟩:∃ x,wd ws 0=x:=⟨_,rfl⟩
  rw [hx] at h0 h2
  subst h2
  obtain ⟨g,o,rfl,k0⟩:=hc 0 x rfl
  rw [Nat.add_zero] at k0
  have n1:x≠zm:=by rcases h0 with h | h | h | h | h <;> rw [h] <;> decide
  have n2:x≠tMap:=by rcases h0 with h | h | h | h | h <;> rw [h] <;> decide
  have g1:(x.toList==[101,110,116,105,116,121])=false:=by rw [qo];exact decide_eq_false n1
  have g2:(x.toList==[109,97,112])=false:=by rw [qMap];exact decide_eq_false n2
  have HK:Hid (aggK (wd [x,a] 0) (keyB [x,a]) (keyC [x,a])=aggK x emp emp):=Lib.hid (by
   have e0:wd [x,a] 0=x:=rfl
   unfold keyB keyC
   rw [e0,if_neg n1,if_neg n2,if_neg n1,if_neg n2])
  rw [HK.out]
  clear hc h0 hf h n1 n2 hx
  go_enter Tryz.func89,Tryz.ntmps89
  go_wp2_with (refine zY (E:=encK) rfl 182 (.tmp 2) (.tmp 24) rfl w.heap.size (emp,emp,emp) (x,emp,emp) 182 rfl rfl HX0.out (by kernel_rfl) ?_;intro w2 hb2 hg2)
  have HF2:=Lib.hid (HF.out _ _ _ _ hb2 hg2)
  obtain ⟨d0,d1,d2⟩:=key3 hb2
  clear hb2 hg2
  exact bodyPost_ret (v:=aggK x emp emp) (by simp [results,Tryz.results89,go_sem,d0,d1,d2]) rfl ⟨rfl,HF2.out⟩
end Go.Proofs.YtdhfpgjnjlcciaaGreatDoor.Un
end
section
namespace Go.Proofs.YtdhfpgjnjlcciaaGreatDoor.Un
open Go.RowKit Go.Maps
set_option maxRecDepth 100000 in
set_option maxHeartbeats 4000000 in
theorem zd5 (v:Value) (a:ByteArray) (W:World) (B R m n:Nat) (c f e l:Value) (D:DataW Unit) (M:Mast) (hv:StrsV W v [tGroup,a]) (h:RdAt W B R m c f e l n D M) :
 Calls Tryz.prog 90 #[.pointer (some ⟨R,0,none⟩),v] W (qQ W B R m n D { M with cur:=a } 0):=by
 obtain ⟨p,cp,rfl,_,_,hc⟩:=hv
 obtain ⟨g,o,rfl,k0⟩:=hc 0 tGroup rfl
 obtain ⟨g',o',e1,k1⟩:=hc 1 a rfl
 cases e1
 rw [Nat.add_zero] at k0
 have g0:(tGroup.toList==[101,110,116,105,116,121])=false:=by rw [qo];decide
 have g1:(tGroup.toList==[109,97,112])=false:=by rw [qMap];decide
 have gt:(tGroup.toList==[103,114,111,117,112])=true:=by rw [qGroup];decide
 have HF:Hid (RdAt (W.setCell ⟨R,4,none⟩ (.string a)) B R m c f e l n D { M with cur:=a }):=Lib.hid (jP 4 _ h.box rfl h.chart h.flows h.ents h.lines h.map h.geR h.geM)
 have HB:Hid (Below B W (W.setCell ⟨R,4,none⟩ (.string a))):=Lib.hid (jw (Below.refl B W) h.geR 4 _)
 obtain ⟨MM,hMM⟩:∃ MM:Mast,({ M with cur:=a }:Mast)=MM:=⟨_,rfl⟩
 rw [hMM] at HF ⊢
 have hz:=h.nine.c4
 have hfz:=h.free 4
 clear hc hMM h
 go_enter Tryz.func90,Tryz.ntmps90
 go_wp2
 go_ret
 exact ⟨rfl,HB.out,fun _=>⟨_,_,_,_,HF.out⟩⟩
set_option maxRecDepth 100000 in
set_option maxHeartbeats 4000000 in
theorem zbN (v:Value) (a:ByteArray) (W:World) (B R m n:Nat) (c f e l:Value) (D:DataW Unit) (M:Mast) (hv:StrsV W v [zI,a]) (h:RdAt W B R m c f e l n D M) :
 Calls Tryz.prog 90 #[.pointer (some ⟨R,0,none⟩),v] W (qQ W B R m n D { M with res:=a } 0):=by
 obtain ⟨p,cp,rfl,_,_,hc⟩:=hv
 obtain ⟨g,o,rfl,k0⟩:=hc 0 zI rfl
 obtain ⟨g',o',e1,k1⟩:=hc 1 a rfl
 cases e1
 rw [Nat.add_zero] at k0
 have g0:(zI.toList==[101,110,116,105,116,121])=false:=by rw [qo];decide
 have g1:(zI.toList==[109,97,112])=false:=by rw [qMap];decide
 have g2:(zI.toList==[103,114,111,117,112])=false:=by rw [qGroup];decide
 have gt:(zI.toList==[114,101,115,101,114,118,101])=true:=by rw [yB];decide
 have HF:Hid (RdAt (W.setCell ⟨R,5,none⟩ (.string a)) B R m c f e l n D { M with res:=a }):=Lib.hid (jP 5 _ h.box rfl h.chart h.flows h.ents h.lines h.map h.geR h.geM)
 have HB:Hid (Below B W (W.setCell ⟨R,5,none⟩ (.string a))):=Lib.hid (jw (Below.refl B W) h.geR 5 _)
 obtain ⟨MM,hMM⟩:∃ MM:Mast,({ M with res:=a }:Mast)=MM:=⟨_,rfl⟩
 rw [hMM] at HF ⊢
 have hz:=h.nine.c5
 have hfz:=h.free 5
 clear hc hMM h
 go_enter Tryz.func90,Tryz.ntmps90
 go_wp2
 go_ret
 exact ⟨rfl,HB.out,fun _=>⟨_,_,_,_,HF.out⟩⟩
set_option maxRecDepth 100000 in
set_option maxHeartbeats 4000000 in
theorem zb3 (v:Value) (a:ByteArray) (W:World) (B R m n:Nat) (c f e l:Value) (D:DataW Unit) (M:Mast) (hv:StrsV W v [zD,a]) (h:RdAt W B R m c f e l n D M) :
 Calls Tryz.prog 90 #[.pointer (some ⟨R,0,none⟩),v] W (qQ W B R m n D { M with dif:=a } 0):=by
 obtain ⟨p,cp,rfl,_,_,hc⟩:=hv
 obtain ⟨g,o,rfl,k0⟩:=hc 0 zD rfl
 obtain ⟨g',o',e1,k1⟩:=hc 1 a rfl
 cases e1
 rw [Nat.add_zero] at k0
 have g0:(zD.toList==[101,110,116,105,116,121])=false:=by rw [qo];decide
 have g1:(zD.toList==[109,97,112])=false:=by rw [qMap];decide
 have g2:(zD.toList==[103,114,111,117,112])=false:=by rw [qGroup];decide
 have g3:(zD.toList==[114,101,115,101,114,118,101])=false:=by rw [yB];decide
 have gt:(zD.toList==[100,105,102,102,101,114])=true:=by rw [ku];decide
 have HF:Hid (RdAt (W.setCell ⟨R,6,none⟩ (.string a)) B R m c f e l n D { M with dif:=a }):=Lib.hid (jP 6 _ h.box rfl h.chart h.flows h.ents h.lines h.map h.geR h.geM)
 have HB:Hid (Below B W (W.setCell ⟨R,6,none⟩ (.string a))):=Lib.hid (jw (Below.refl B W) h.geR 6 _)
 obtain ⟨MM,hMM⟩:∃ MM:Mast,({ M with dif:=a }:Mast)=MM:=⟨_,rfl⟩
 rw [hMM] at HF ⊢
 have hz:=h.nine.c6
 have hfz:=h.free 6
 clear hc hMM h
 go_enter Tryz.func90,Tryz.ntmps90
 go_wp2
 go_ret
 exact ⟨rfl,HB.out,fun _=>⟨_,_,_,_,HF.out⟩⟩
set_option maxRecDepth 100000 in
set_option maxHeartbeats 4000000 in
theorem zh4 (v:Value) (a:ByteArray) (W:World) (B R m n:Nat) (c f e l:Value) (D:DataW Unit) (M:Mast) (hv:StrsV W v [tMinor,a]) (h:RdAt W B R m c f e l n D M) :
 Calls Tryz.prog 90 #[.pointer (some ⟨R,0,none⟩),v] W (qQ W B R m n D { M with min:=a } 0):=by
 obtain ⟨p,cp,rfl,_,_,hc⟩:=hv
 obtain ⟨g,o,rfl,k0⟩:=hc 0 tMinor rfl
 obtain ⟨g',o',e1,k1⟩:=hc 1 a rfl
 cases e1
 rw [Nat.add_zero] at k0
 have g0:(tMinor.toList==[101,110,116,105,116,121])=false:=by rw [qo];decide
 have g1:(tMinor.toList==[109,97,112])=false:=by rw [qMap];decide
 have g2:(tMinor.toList==[103,114,111,117,112])=false:=by rw [qGroup];decide
 have g3:(tMinor.toList==[114,101,115,101,114,118,101])=false:=by rw [yB];decide
 have g4:(tMinor.toList==[100,105,102,102,101,114])=false:=by rw [ku];decide
 have gt:(tMinor.toList==[109,105,110,111,114])=true:=by rw [qMinor];decide
 have HF:Hid (RdAt (W.setCell ⟨R,7,none⟩ (.string a)) B R m c f e l n D { M with min:=a }):=Lib.hid (jP 7 _ h.box rfl h.chart h.flows h.ents h.lines h.map h.geR h.geM)
 have HB:Hid (Below B W (W.setCell ⟨R,7,none⟩ (.string a))):=Lib.hid (jw (Below.refl B W) h.geR 7 _)
 obtain ⟨MM,hMM⟩:∃ MM:Mast,({ M with min:=a }:Mast)=MM:=⟨_,rfl⟩
 rw [hMM] at HF ⊢
 have hz:=h.nine.c7
 have hfz:=h.free 7
 clear hc hMM h
 go_enter Tryz.func90,Tryz.ntmps90
 go_wp2
 go_ret
 exact ⟨rfl,HB.out,fun _=>⟨_,_,_,_,HF.out⟩⟩
set_option maxRecDepth 100000 in
set_option maxHeartbeats 4000000 in
theorem zcs (v:Value) (a:ByteArray) (W:World) (B R m n:Nat) (c f e l:Value) (D:DataW Unit) (M:Mast) (hv:StrsV W v [tStake,a]) (h:RdAt W B R m c f e l n D M) :
 Calls Tryz.prog 90 #[.pointer (some ⟨R,0,none⟩),v] W (qQ W B R m n D { M with stk:=a } 0):=by
 obtain ⟨p,cp,rfl,_,_,hc⟩:=hv
 obtain ⟨g,o,rfl,k0⟩:=hc 0 tStake rfl
 obtain ⟨g',o',e1,k1⟩:=hc 1 a rfl
 cases e1
 rw [Nat.add_zero] at k0
 have g0:(tStake.toList==[101,110,116,105,116,121])=false:=by rw [qo];decide
 have g1:(tStake.toList==[109,97,112])=false:=by rw [qMap];decide
 have g2:(tStake.toList==[103,114,111,117,112])=false:=by rw [qGroup];decide
 have g3:(tStake.toList==[114,101,115,101,114,118,101])=false:=by rw [yB];decide
 have g4:(tStake.toList==[100,105,102,102,101,114])=false:=by rw [ku];decide
 have g5:(tStake.toList==[109,105,110,111,114])=false:=by rw [qMinor];decide
 have gt:(tStake.toList==[115,116,97,107,101])=true:=by rw [qStake];decide
 have HF:Hid (RdAt (W.setCell ⟨R,8,none⟩ (.string a)) B R m c f e l n D { M with stk:=a }):=Lib.hid (jP 8 _ h.box rfl h.chart h.flows h.ents h.lines h.map h.geR h.geM)
 have HB:Hid (Below B W (W.setCell ⟨R,8,none⟩ (.string a))):=Lib.hid (jw (Below.refl B W) h.geR 8 _)
 obtain ⟨MM,hMM⟩:∃ MM:Mast,({ M with stk:=a }:Mast)=MM:=⟨_,rfl⟩
 rw [hMM] at HF ⊢
 have hz:=h.nine.c8
 have hfz:=h.free 8
 clear hc hMM h
 go_enter Tryz.func90,Tryz.ntmps90
 go_wp2
 go_ret
 exact ⟨rfl,HB.out,fun _=>⟨_,_,_,_,HF.out⟩⟩
end Go.Proofs.YtdhfpgjnjlcciaaGreatDoor.Un
end
section
namespace Go.Proofs.YtdhfpgjnjlcciaaGreatDoor.Un
open Go.RowKit Go.Maps
def xV (W:World) (B R m n:Nat) (M:Mast) (E:Int) (en:Ending) (W':World):Prop :=
 en=.returned (.int .i64 E)∧Below B W W'∧(E=0→∃ c f e l D,RdAt W' B R m c f e l n D M∧zT D M)
theorem RdAt.mono {W:World} {B R m n k:Nat} {c f e l:Value} {D:DataW Unit} {M:Mast} (h:RdAt W B R m c f e l n D M) (hk:n≤k):RdAt W B R m c f e l k D M :=
 ⟨h.box,h.chart,h.flows,h.ents,h.lines,h.map.mono hk,h.geR,h.geM⟩
theorem RdAt.mapTurned {W W':World} {B R m n k:Nat} {c f e l:Value} {D D':DataW Unit} {M:Mast} (h:RdAt W B R m c f e l n D M) (hg:W.grownBy W' (some m)) (hm:MapRd W' m k D'):RdAt W' B R m c f e l k D' M:=by
 have hne:∀ {B':Nat} {e':TypeId} {s q:Nat} {v:Value} {xs:List Value},W.ownsRow B' e' s v q xs→v.ownBlock=none∨v.ownBlock≠some m:=fun hr=>.inr (Qu h.map hr).symm
 refine ⟨(hg.block R h.lt (fun e0=>?_)).trans h.box,h.chart.kept hg (hne h.chart),h.flows.kept hg (hne h.flows),h.ents.kept hg (hne h.ents),h.lines.kept hg (hne h.lines),hm,h.geR,h.geM⟩
 cases e0
 obtain ⟨es,cl,hb,_⟩:=h.map
 have:=h.box
 unfold BoxRd at this
 rw [hb] at this;cases this
set_option maxRecDepth 100000 in
set_option maxHeartbeats 8000000 in
theorem Q9 (v:Value) (ws:List ByteArray) (W0 W:World) (R m n:Nat) (c f e l:Value) (D:DataW Unit) (M:Mast) (hv0:StrsV W0 v ws) (h0:0 < ws.length) (hl:Laid W0) (hlf:Fl.Laid W0) (hb:Below W0.heap.size W0 W) (h:RdAt W W0.heap.size R m c f e l n D M) (hst:zT D M) (hs:Sane M)
 (hw:wd ws 0=zb∨wd ws 0=Fl.tFlow∨zj ws=false) :
 Calls Tryz.prog 59 #[.pointer (some ⟨R,0,none⟩),v] W (xV W W0.heap.size R m (n+1) (stepV M ws) (stepE M ws)):=by
 have hv:=hv0.keep hb
 obtain ⟨x0,hx0⟩:∃ x,ws[0]?=some x:=⟨_,List.getElem?_eq_getElem h0⟩
 have hwd:wd ws 0=x0:=jd hx0
 have q1:=vZ x0
 have q2:=qFlow x0
 by_cases w1:x0=zb
 ·rw [decide_eq_true w1] at q1
  have HV:Hid (stepV M ws={ M with chart:=insL M.chart (parseA ws).1 }):=Lib.hid (by unfold stepV;rw [if_pos (hwd.trans w1)])
  have HE:Hid (stepE M ws=(if (parseA ws).2=0 then addE M.chart (parseA ws).1 else (parseA ws).2)):=Lib.hid (by unfold stepE;rw [if_pos (hwd.trans w1)])
  have HRA:=Lib.hid (zbz v ws W W0.heap.size R m n c f e l D M hv (hl.below hb (Nat.le_refl _)) h hb.size (by have:=hs.lc;omega))
  rw [←HV.out,←HE.out] at HRA
  have HSS:Hid (zT D (stepV M ws)):=Lib.hid (by rw [HV.out];exact hst.same rfl rfl rfl rfl rfl rfl rfl)
  obtain ⟨E,hE⟩:∃ E,stepE M ws=E:=⟨_,rfl⟩
  obtain ⟨N,hN⟩:∃ N,stepV M ws=N:=⟨_,rfl⟩
  rw [hE,hN] at HRA ⊢
  rw [hN] at HSS
  obtain ⟨p,cp,rfl,_,_,hc⟩:=hv
  obtain ⟨g,o,rfl,k0⟩:=hc 0 x0 hx0
  rw [Nat.add_zero] at k0
  obtain ⟨nw,hnw⟩:∃ nw,ws.length=nw:=⟨_,rfl⟩
  rw [hnw] at HRA h0 ⊢
  clear hE hN hc hx0 hwd w1 hv0 hl hlf hst hs h hw HV HE hnw
  go_enter Tryz.func59,Tryz.ntmps59
  go_wp2_with fail
  refine HRA.out.mono ?_
  rintro en w1 ⟨rfl,hb1,hrd⟩
  have HB1:=Lib.hid hb1
  have HRD:=Lib.hid hrd
  clear hb1 hrd
  go_wp2
  go_ret
  exact ⟨rfl,HB1.out,fun h0=>by
   obtain ⟨c,f,e,l,hr⟩:=HRD.out h0
   exact ⟨c,f,e,l,D,hr.mono (Nat.le_succ _),HSS.out⟩⟩
 ·rw [decide_eq_false w1] at q1
  by_cases w2:x0=Fl.tFlow
  ·rw [decide_eq_true w2] at q2
   have HV:Hid (stepV M ws={ M with flows:=insK Fl.Flow.code M.flows (Fl.parseF ws).1 }):=Lib.hid (by unfold stepV;rw [hwd,if_neg w1,if_pos w2])
   have HE:Hid (stepE M ws=(if (Fl.parseF ws).2=0 then Fl.addE M.flows (Fl.parseF ws).1 else (Fl.parseF ws).2)):=Lib.hid (by unfold stepE;rw [hwd,if_neg w1,if_pos w2])
   have HRA:=Lib.hid (zgI v ws W W0.heap.size R m n c f e l D M hv (hlf.below hb (Nat.le_refl _)) h hb.size (by have:=hs.lf;omega) (Fl.qm hs.fl))
   rw [←HV.out,←HE.out] at HRA
   have HSS:Hid (zT D (stepV M ws)):=Lib.hid (by rw [HV.out];exact hst.same rfl rfl rfl rfl rfl rfl rfl)
   obtain ⟨E,hE⟩:∃ E,stepE M ws=E:=⟨_,rfl⟩
   obtain ⟨N,hN⟩:∃ N,stepV M ws=N:=⟨_,rfl⟩
   rw [hE,hN] at HRA ⊢
   rw [hN] at HSS
   obtain ⟨p,cp,rfl,_,_,hc⟩:=hv
   obtain ⟨g,o,rfl,k0⟩:=hc 0 x0 hx0
   rw [Nat.add_zero] at k0
   obtain ⟨nw,hnw⟩:∃ nw,ws.length=nw:=⟨_,rfl⟩
   rw [hnw] at HRA h0 ⊢
   clear hE hN hc hx0 hwd w1 w2 hv0 hl hlf hst hs h hw HV HE hnw
   go_enter Tryz.func59,Tryz.ntmps59
   go_wp2_with fail
   refine HRA.out.mono ?_
   rintro en w1 ⟨rfl,hb1,hrd⟩
   have HB1:=Lib.hid hb1
   have HRD:=Lib.hid hrd
   clear hb1 hrd
   go_wp2
   go_ret
   exact ⟨rfl,HB1.out,fun h0=>by
    obtain ⟨c,f,e,l,hr⟩:=HRD.out h0
    exact ⟨c,f,e,l,D,hr.mono (Nat.le_succ _),HSS.out⟩⟩
  ·rw [decide_eq_false w2] at q2
   have hff:zj ws=false:=by
    rcases hw with hw | hw | hw
    ·exact absurd (hwd.symm.trans hw) w1
    ·exact absurd (hwd.symm.trans hw) w2
    ·exact hw
   have HE:Hid (stepE M ws=5):=Lib.hid (by unfold stepE;rw [hwd,if_neg w1,if_neg w2,if_pos hff])
   have HFO:=Lib.hid (VK v ws W hv h0)
   rw [hff] at HFO
   obtain ⟨E,hE⟩:∃ E,stepE M ws=E:=⟨_,rfl⟩
   obtain ⟨N,hN⟩:∃ N,stepV M ws=N:=⟨_,rfl⟩
   rw [hE] at HE
   rw [hE,hN]
   obtain ⟨p,cp,rfl,_,_,hc⟩:=hv
   obtain ⟨g,o,rfl,k0⟩:=hc 0 x0 hx0
   rw [Nat.add_zero] at k0
   obtain ⟨nw,hnw⟩:∃ nw,ws.length=nw:=⟨_,rfl⟩
   rw [hnw] at HFO h0 ⊢
   clear hE hN hc hx0 hwd w1 w2 hv0 hl hlf hst hs h hw hff hnw
   go_enter Tryz.func59,Tryz.ntmps59
   go_wp2_with fail
   refine HFO.out.mono ?_
   rintro en w1 ⟨rfl,rfl⟩
   go_wp2
   go_ret
   exact ⟨by rw [HE.out];rfl,Below.refl _ _,fun h1=>by rw [HE.out] at h1;simp at h1⟩
end Go.Proofs.YtdhfpgjnjlcciaaGreatDoor.Un
end
section
namespace Go.Proofs.YtdhfpgjnjlcciaaGreatDoor.Un
open Go.RowKit Go.Maps
set_option maxRecDepth 100000 in
theorem zhV {W:World} {m n:Nat} {D:DataW Unit} {M:Mast} {ws:List ByteArray} (hm:MapRd W m n D) (hst:zT D M) (hf:zj ws=true) (hn:n < maxLen) :
 (∃ c:Int,c=hadI M ws∧(Instr.lookup 136 (.map (some m)) (aggK (wd ws 0) (keyB ws) (keyC ws)) false).run Tryz.prog W=.ok (.int .i64 c) W) ∧
 (hadW M ws=false→∃ (v0:Value) (st:Nat) (W3 W4:World),(Instr.mapEntry 136 (.map (some m)) (aggK (wd ws 0) (keyB ws) (keyC ws))).run Tryz.prog W=.ok (.tuple #[v0,.int .i64 (st:Int)]) W3 ∧
  (Instr.lookup 136 (.map (some m)) (aggK (wd ws 0) (keyB ws) (keyC ws)) false).run Tryz.prog W3=.ok (.int .i64 0) W3 ∧
  (Instr.entryStore 136 (.map (some m)) (.int .i64 (st:Int)) (.int .i64 1)).run Tryz.prog W3=.ok () W4 ∧
  MapRd W4 m (n+1) (D.put (klW ws) (.lit (.int .i64 1)))∧W.grownBy W4 (some m)):=by
 obtain ⟨s1,s2,s3⟩:=Jz hf
 have hkey:=Jo (wd ws 0) (keyB ws) (keyC ws) (jG s1) (jG s2) (jG s3)
 have hT:=Tryz.underlying136
 have hI:=Tryz.underlying3
 refine ⟨?_,fun hno=>?_⟩
 ·obtain ⟨c,hrun,hat,_⟩:=hm.lookup_int keyLaw hT hI (vM _) hkey
  have:=hst ws hf
  rw [hat] at this
  injection this with this
  injection this with _ this
  exact ⟨c,this,hrun⟩
 ·have hz0:plainElem (H:=Unit) Tryz.prog 3 (.int .i64 0)=some (.lit (.int .i64 0),[]):=plainElem_int hI (by decide)
  have h1:plainElem (H:=Unit) Tryz.prog 3 (.int .i64 1)=some (.lit (.int .i64 1),[]):=plainElem_int hI (by decide)
  obtain ⟨v0,st,W3,dv,he,hg3,ho3,hdv,hs⟩:=zcS hm keyLaw hT (z:=.int .i64 0) (fun u=>vM u) hz0 hn hkey
  obtain ⟨W4,hs4,ho4,hg4⟩:=hs (.int .i64 1) _ _ h1
  obtain ⟨c,hrun,hat,_⟩:=ho3.lookup_int keyLaw hT hI (vM _) hkey
  have hc:c=0:=by
   rw [atKey_put_same (hm.tidy keyLaw).isMap (KF _ _ _),hdv,hst ws hf] at hat
   injection hat with hat
   injection hat with _ hat
   rw [←hat];unfold hadI;rw [hno];rfl
  subst hc
  exact ⟨v0,st,W3,W4,he,hrun,hs4,ho4,hg3.trans hg4⟩
set_option maxRecDepth 100000 in
set_option maxHeartbeats 8000000 in
theorem zfp (v:Value) (ws:List ByteArray) (W0 W:World) (R m n:Nat) (c f e l:Value) (D:DataW Unit) (M:Mast) (hv0:StrsV W0 v ws) (hb:Below W0.heap.size W0 W) (h:RdAt W W0.heap.size R m c f e l n D M) (hst:zT D M)
 (hw1:wd ws 0≠zb) (hw2:wd ws 0≠Fl.tFlow) (hf:zj ws=true) (hn:n < maxLen)
 (HKP:∀ (X:World) (k:Nat) (D':DataW Unit),StrsV X v ws→RdAt X W0.heap.size R m c f e l k D' M→W0.heap.size≤X.heap.size→Calls Tryz.prog 90 #[.pointer (some ⟨R,0,none⟩),v] X (qQ X W0.heap.size R m k D' (stepV M ws) (keepE M ws))) :
 Calls Tryz.prog 59 #[.pointer (some ⟨R,0,none⟩),v] W (xV W W0.heap.size R m (n+1) (stepV M ws) (stepE M ws)):=by
 have hv:=hv0.keep hb
 have h0:0 < ws.length:=by
  unfold zj at hf
  rw [Bool.and_eq_true,decide_eq_true_eq] at hf
  exact hf.1
 obtain ⟨x0,hx0⟩:∃ x,ws[0]?=some x:=⟨_,List.getElem?_eq_getElem h0⟩
 have hwd:wd ws 0=x0:=jd hx0
 have q1:=vZ x0
 have q2:=qFlow x0
 rw [decide_eq_false (by rw [←hwd];exact hw1)] at q1
 rw [decide_eq_false (by rw [←hwd];exact hw2)] at q2
 have HSF:Hid (stepE M ws=if hadW M ws=true then 7 else keepE M ws):=Lib.hid (zjf hw1 hw2 hf)
 have HFO:=Lib.hid (VK v ws W hv h0)
 rw [hf] at HFO
 have HKO:=Lib.hid (zd6 v ws W hv hf)
 have HSE:=Lib.hid (fun (X:World) (hX:MapRd X m n D)=>zhV hX hst hf hn)
 have HSP:Hid (stepE M ws=0→zT (D.put (klW ws) (.lit (.int .i64 1))) (stepV M ws)):=Lib.hid (fun h0=>hst.step (h.map.tidy keyLaw) hf h0)
 obtain ⟨kA,hkA⟩:∃ kA,wd ws 0=kA:=⟨_,rfl⟩
 obtain ⟨kB,hkB⟩:∃ kB,keyB ws=kB:=⟨_,rfl⟩
 obtain ⟨kC,hkC⟩:∃ kC,keyC ws=kC:=⟨_,rfl⟩
 rw [hkA,hkB,hkC] at HKO
 simp only [hkA,hkB,hkC] at HSE
 obtain ⟨E,hE⟩:∃ E,stepE M ws=E:=⟨_,rfl⟩
 obtain ⟨N,hN⟩:∃ N,stepV M ws=N:=⟨_,rfl⟩
 obtain ⟨K,hK⟩:∃ K,keepE M ws=K:=⟨_,rfl⟩
 rw [hE,hK] at HSF
 rw [hE,hN] at HSP ⊢
 simp only [hN,hK] at HKP
 have HKE:=Lib.hid HKP
 have HV0:=Lib.hid hv0
 have HRD:=Lib.hid h
 have HB:=Lib.hid hb
 obtain ⟨p,cp,rfl,_,_,hc⟩:=hv
 obtain ⟨g,o,rfl,k0⟩:=hc 0 x0 hx0
 rw [Nat.add_zero] at k0
 obtain ⟨nw,hnw⟩:∃ nw,ws.length=nw:=⟨_,rfl⟩
 rw [hnw] at HFO HKO HV0 h0 ⊢
 simp only [hnw] at HKE
 clear HKP hE hN hK hkA hkB hkC hc hx0 hwd hw1 hw2 hv0 hst h hf hnw hb hn
 go_enter Tryz.func59,Tryz.ntmps59
 go_wp2_with fail
 refine HFO.out.mono ?_
 rintro en w1 ⟨rfl,rfl⟩
 go_wp2_with fail
 refine HKO.out.mono ?_
 rintro en w2 ⟨rfl,hb2⟩
 have hb3:=hb2.alloc hb2.size (.cells #[.string kA,.string kB,.string kC] 182)
 have HR3:=Lib.hid (HRD.out.below hb3)
 have HX3:=Lib.hid (BoxE.new encK w2 (kA,kB,kC) 182)
 have HB3:=Lib.hid (HB.out.trans (hb3.mono HB.out.size))
 have HBW:=Lib.hid (hb3.mono HB.out.size)
 obtain ⟨W3,hW3⟩:∃ W3,w2.alloc (.cells #[.string kA,.string kB,.string kC] 182)=W3:=⟨_,rfl⟩
 have hW3':w2.alloc (.cells (encK.cs (kA,kB,kC)).toArray 182)=W3:=hW3
 rw [hW3] at HR3 HB3 HBW
 rw [hW3'] at HX3
 clear hb2 hb3 hW3'
 go_wp2_with fail
 clear hW3
 obtain ⟨W4,hW4⟩:∃ W4,W3.drew=W4:=⟨_,rfl⟩
 have HR4:Hid (RdAt W4 W0.heap.size R m c f e l n D M):=Lib.hid (by rw [←hW4];exact HR3.out.below ⟨rfl,rfl,rfl,Nat.le_refl _,fun _ _=>rfl⟩)
 have HX4:Hid (BoxE encK W4 w2.heap.size 182 (kA,kB,kC)):=Lib.hid (by rw [←hW4];exact HX3.out)
 have HB4:Hid (Below W0.heap.size W0 W4):=Lib.hid (by rw [←hW4];exact ⟨HB3.out.os,HB3.out.tape,HB3.out.output,HB3.out.size,HB3.out.block⟩)
 have HW4:Hid (Below W0.heap.size w1 W4):=Lib.hid (by rw [←hW4];exact ⟨HBW.out.os,HBW.out.tape,HBW.out.output,HBW.out.size,HBW.out.block⟩)
 obtain ⟨⟨cc,hcc,hlk⟩,hen⟩:=HSE.out W4 HR4.out.map
 have hten:=HR4.out.ten
 obtain ⟨y0,y1,y2⟩:=key3 HX4.out
 obtain ⟨hd,hhd⟩:∃ hd,hadW M ws=hd:=⟨_,rfl⟩
 unfold hadI at hcc
 rw [hhd] at hcc hen HSF
 have HHD:=Lib.hid hhd
 refine wp_region_still_lit (by kernel_rfl) (by kernel_rfl) ?_
 rw [show ({ heap:=W3.heap,tape:=W3.tape,drawn:=W3.drawn+1,os:=W3.os,output:=W3.output }:World)=W4 from hW4]
 clear hW4 hhd HR3 HX3 HB3 HBW
 cases hd with
 | true =>
   have HE7:Hid (E=7):=Lib.hid (by rw [HSF.out];rfl)
   rw [if_pos rfl] at hcc
   subst hcc
   clear hen
   repeat still_step
   refine wpStill_nil ?_
   go_wp2
   go_ret
   exact ⟨by rw [HE7.out];rfl,HW4.out,fun h1=>by rw [HE7.out] at h1;simp at h1⟩
 | false =>
   have HEK:Hid (E=K):=Lib.hid (by rw [HSF.out];rfl)
   rw [if_neg (by simp)] at hcc
   subst hcc
   clear hen
   repeat still_step
   refine wpStill_nil ?_
   clear hlk hten y0 y1 y2
   go_wp2_with fail
   have HR5:Hid (RdAt W4.drew W0.heap.size R m c f e l n D M):=Lib.hid (HR4.out.below ⟨rfl,rfl,rfl,Nat.le_refl _,fun _ _=>rfl⟩)
   have HX5:Hid (BoxE encK W4.drew w2.heap.size 182 (kA,kB,kC)):=Lib.hid HX4.out
   obtain ⟨⟨cc,hcc,hlk⟩,hen⟩:=HSE.out W4.drew HR5.out.map
   unfold hadI at hcc
   rw [HHD.out] at hcc hen
   rw [if_neg (by simp)] at hcc
   subst hcc
   obtain ⟨v0,st,W6,W7,he,hl6,hs7,ho7,hg7⟩:=hen rfl
   have hten:=HR5.out.ten
   obtain ⟨y0,y1,y2⟩:=key3 HX5.out
   have HR7:=Lib.hid (HR5.out.mapTurned hg7 ho7)
   have HB7:Hid (Below W0.heap.size W0 W7):=Lib.hid (by
    have hb5:Below W0.heap.size W0 W4.drew:=⟨HB4.out.os,HB4.out.tape,HB4.out.output,HB4.out.size,HB4.out.block⟩
    exact hb5.grown hg7 hb5.size (fun j hj=>by cases hj;exact HR4.out.geM))
   have HW7:Hid (Below W0.heap.size w1 W7):=Lib.hid (by
    have hb5:Below W0.heap.size w1 W4.drew:=⟨HW4.out.os,HW4.out.tape,HW4.out.output,HW4.out.size,HW4.out.block⟩
    exact hb5.grown hg7 HB4.out.size (fun j hj=>by cases hj;exact HR4.out.geM))
   clear ho7 hg7
   go_region
   clear he hl6 hs7 hlk hten y0 y1 y2
   go_wp2_with fail
   refine (HKE.out W7 _ _ (HV0.out.keep HB7.out) HR7.out HB7.out.size).mono ?_
   rintro en w9 ⟨rfl,hb9,hrd9⟩
   have HB9:=Lib.hid (HW7.out.trans hb9)
   have HR9:=Lib.hid hrd9
   clear hb9 hrd9
   go_wp2
   go_ret
   exact ⟨by rw [HEK.out];rfl,HB9.out,fun h1=>by
    obtain ⟨c9,f9,e9,l9,hr9⟩:=HR9.out (by rw [←HEK.out];exact h1)
    exact ⟨c9,f9,e9,l9,_,hr9,HSP.out h1⟩⟩
end Go.Proofs.YtdhfpgjnjlcciaaGreatDoor.Un
end
section
namespace Go.Proofs.YtdhfpgjnjlcciaaGreatDoor.Un
open Go.RowKit
set_option maxRecDepth 100000 in
set_option maxHeartbeats 4000000 in
theorem zfm (c f e l:Value) (M:Mast) (w:World) (h:MastIn w c f e l M) (hri:riseK Fl.Flow.code M.flows=true) (hfl:M.flows.length≤1000) :
 Calls Tryz.prog 92 #[aggM c f e l M] w fun en w'=>en=.returned (.bool (linesN M))∧Below w.heap.size w w':=by
 have HB0:=Lib.hid ((Below.refl w.heap.size w).alloc (Nat.le_refl _) (.cells (cellsM c f e l M) 33))
 have HN0:=Lib.hid (zM w c f e l M 33)
 have HM0:=Lib.hid (h.keep HB0.out)
 have HRI:=Lib.hid hri
 have HFL:=Lib.hid hfl
 obtain ⟨r,hr⟩:∃ r,linesN M=r:=⟨_,rfl⟩
 have HR:Hid (M.lines.all (lineN M)=r):=Lib.hid hr
 rw [hr]
 clear hr h hri hfl
 obtain ⟨W,hW⟩:∃ W,w.alloc (.cells (cellsM c f e l M) 33)=W:=⟨_,rfl⟩
 rw [hW] at HB0 HN0 HM0
 obtain ⟨pl,cl,el,hlc,hlm,_,hlv⟩:=HM0.out.lines
 subst el
 obtain ⟨n,hn⟩:∃ n,M.lines.length=n:=⟨_,rfl⟩
 rw [hn] at hlc
 have HN:=Lib.hid hn
 have HLV:=Lib.hid hlv
 unfold maxLen at hlm
 rw [hn] at HN0 HM0 ⊢
 rw [hn] at hW
 clear hlv hn
 obtain ⟨c0,c1,c2,c3,c4,c5,c6,c7,c8⟩:=HN0.out
 go_enter Tryz.func92,Tryz.ntmps92
 go_wp2
 clear c0 c1 c2 c3 c4 c5 c6 c7 c8 hW
 go_loopw [12] (fun s12 wr=>∃ i:Nat,i≤n∧s12=.int .i64 (i:Int)∧Hid (Below W.heap.size W wr)∧Hid (SoFar (lineN M) M.lines i)) (fun s12 _=>n - (intOf s12).toNat)
 case atStart=>exact ⟨0,Nat.zero_le _,rfl,Lib.hid (Below.refl _ _),Lib.hid (SoFar.zero _ _)⟩
 case round =>
  obtain ⟨i,hi,rfl,HBR,HSF⟩:=hrel
  by_cases hlt:i < n
  ·obtain ⟨x,hx⟩:∃ x,M.lines[i]?=some x:=⟨_,List.getElem?_eq_getElem (by rw [HN.out];exact hlt)⟩
   obtain ⟨b,o,rfl,hat⟩:=HLV.out i x hx
   obtain ⟨d0,d1,d2⟩:=lin3 (hat.keep HBR.out hat.lt)
   have hbx:=HBR.out.alloc HBR.out.size (.cells #[.string x.acc,.string x.flow,.string x.goal] 235)
   have HBX:=Lib.hid hbx
   have HM2:=Lib.hid (HM0.out.keep hbx)
   have HN2:=Lib.hid (HN0.out.kept hbx)
   have HX2:=Lib.hid (BoxE.new encL wr x 235)
   obtain ⟨k0,k1,k2,k3,k4,k5,k6,k7,k8⟩:=HN2.out
   obtain ⟨q0,q1,q2⟩:=lin3 HX2.out.at0
   have HX:=Lib.hid hx
   clear hat hx hbx
   go_wp2_with fail
   clear k0 k1 k2 k3 k4 k5 k6 k7 k8 q0 q1 q2 d0 d1 d2
   refine (Go.Proofs.YtdhfpgjnjlcciaaGreatDoor.jh _ M.chart x.acc _ HM2.out.chart).mono ?_
   rintro en w3 ⟨rfl,hb3⟩
   obtain ⟨fa,hfa⟩:∃ fa,findV (findL M.chart x.acc)=fa:=⟨_,rfl⟩
   obtain ⟨s,hs⟩:∃ s,(findL M.chart x.acc).isSome=s:=⟨_,rfl⟩
   rw [hfa,hs]
   have HSV:Hid (hasA M.chart x.acc=s):=Lib.hid hs
   have hb4:=hb3.alloc hb3.size (.cells #[.string fa.code,.int .i64 fa.cls,.bool fa.cash,.bool fa.both,.string fa.fixed,.bool fa.worn] 129)
   have HB4:=Lib.hid (HBX.out.trans (hb4.mono HBX.out.size))
   have HM4:=Lib.hid (HM2.out.keep hb4)
   obtain ⟨k0,k1,k2,k3,k4,k5,k6,k7,k8⟩:=HN2.out.kept hb4
   obtain ⟨q0,q1,q2⟩:=lin3 (HX2.out.kept hb4).at0
   clear hs hfa hb3 hb4 HM2 HN2 HX2 HBX
   go_wp2_with fail
   clear k0 k1 k2 k3 k4 k5 k6 k7 k8 q0 q1 q2
   refine (Fl.QJ _ M.flows x.flow _ HM4.out.flows HRI.out HFL.out).mono ?_
   rintro en w5 ⟨rfl,hb5⟩
   obtain ⟨kd,hkd⟩:∃ kd,Fl.kindL M.flows x.flow=kd:=⟨_,rfl⟩
   obtain ⟨s2,hs2⟩:∃ s2,isK Fl.Flow.code M.flows x.flow=s2:=⟨_,rfl⟩
   rw [hkd,hs2]
   have HSW:Hid (lineN M x=(s && s2)):=Lib.hid (by unfold lineN;rw [HSV.out,hs2])
   have HB5:=Lib.hid (HB4.out.trans (hb5.mono HB4.out.size))
   clear hkd hs2 hb5 HB4 HM4
   cases s with
   | false =>
     have HRF:Hid (r=false):=Lib.hid (by rw [←HR.out];exact zX HX.out (by rw [HSW.out];rfl))
     go_wp2
     go_ret
     exact ⟨by rw [HRF.out];rfl,HB0.out.trans (HB5.out.mono HB0.out.size)⟩
   | true =>
     cases s2 with
     | false =>
       have HRF:Hid (r=false):=Lib.hid (by rw [←HR.out];exact zX HX.out (by rw [HSW.out];rfl))
       go_wp2
       go_ret
       exact ⟨by rw [HRF.out];rfl,HB0.out.trans (HB5.out.mono HB0.out.size)⟩
     | true =>
       have HSN:=Lib.hid (HSF.out.next HX.out (by rw [HSW.out];rfl))
       go_wp2
       go_roundw
       case rel=>exact ⟨i+1,by omega,by go_num,HB5,HSN⟩
       case measure=>simp [intOf];omega
  ·have HRT:Hid (r=true):=Lib.hid (by rw [←HR.out];exact HSF.out.done (by rw [HN.out];omega))
   go_wp2
   go_ret
   exact ⟨by rw [HRT.out];rfl,HB0.out.trans (HBR.out.mono HB0.out.size)⟩
end Go.Proofs.YtdhfpgjnjlcciaaGreatDoor.Un
end
