/- ChartParse -/
import Derived.Deep.CutBlock
import Derived.Deep.DeepCutAuto
import Derived.Deep.RegionHeld3
import Derived.Deep.RegionLaw
import Derived.Laws.Slices
import Derived.Test.YthcpglnmhimepaaGreatDoorS07
import Derived.Test.YthcpglnmhimepaaGreatDoorS16
namespace Go.Proofs.YthcpglnmhimepaaGreatDoor
open Go.RowKit
theorem strs_tail {P:Program} {t:TypeId} (ht:P.underlying t=some (.slice (P.elem t))) (hs:∀ w,(sizeOf (P.elem t)).run P w=.ok 1 w) {w:World} {p:Option Addr} {n c k:Nat} {ws:List ByteArray}
 (h:StrsV w (.slice p n c) ws) (hk:k≤n):∃ v,(∀ w',(Instr.slice t (.slice p n c) (some (.int .i64 (k:Int))) none none).run P w'=.ok v w')∧StrsV w v (ws.drop k):=by
 obtain ⟨p',c',e,h1,h2,hc⟩:=h
 injection e with e1 e2 e3
 subst e1 e2 e3
 refine ⟨sliced p k ws.length c 1,fun w'=>?_,?_⟩
 ·rw [run_slice_l w' t p _ c ht .i64 (k:Int) (by omega) (by omega),hs];simp [Result.andThen]
 ·cases p with
  | none =>
    refine ⟨none,c - k,by simp [sliced],by simp;omega,by simp;omega,fun i x hx=>?_⟩
    rw [List.getElem?_drop] at hx
    obtain ⟨b,o,e,_⟩:=hc _ x hx
    cases e
  | some ad =>
    by_cases hck:c=k
    ·subst hck
     refine ⟨some ad,0,by simp [sliced],by simp;omega,by simp;omega,fun i x hx=>?_⟩
     rw [List.getElem?_drop] at hx
     have:=(List.getElem?_eq_some_iff.1 hx).1
     omega
    ·refine ⟨some (ad.add k),c - k,by simp [sliced,hck],by simp;omega,by simp;omega,fun i x hx=>?_⟩
     rw [List.getElem?_drop] at hx
     obtain ⟨b,o,e,h3⟩:=hc _ x hx
     cases e
     exact ⟨b,o+k,by rw [add_off],by rw [Nat.add_assoc];exact h3⟩
theorem tail_u:Tryz.prog.underlying 66=some (.slice (Tryz.prog.elem 66)):=by kernel_rfl
theorem tail_s (w:World):(sizeOf (Tryz.prog.elem 66)).run Tryz.prog w=.ok 1 w:=by kernel_rfl
abbrev put6 (w:World) (g:Nat) (a:Acct):World :=
 (((((w.setCell ⟨g,0,none⟩ (.string a.code)).setCell ⟨g,1,none⟩ (.int .i64 a.cls)).setCell ⟨g,2,none⟩ (.bool a.cash)).setCell ⟨g,3,none⟩ (.bool a.both)).setCell ⟨g,4,none⟩ (.string a.fixed)).setCell ⟨g,5,none⟩ (.bool a.worn)
theorem put6_eq {w:World} {g:Nat} {t:TypeId} {z:Acct} (h:BoxA w g t z) (a:Acct):put6 w g a=w.setRow g #[.string a.code,.int .i64 a.cls,.bool a.cash,.bool a.both,.string a.fixed,.bool a.worn]:=by
 unfold BoxA at h
 unfold put6
 rw [setCell_eq_setRow w g 0 _ t (0,0) _ h,
  setCell_eq_setRow _ g 1 _ t (0,0) _ (setRow_heap w g _ _ t _ h),setRow_setRow,
  setCell_eq_setRow _ g 2 _ t (0,0) _ (setRow_heap w g _ _ t _ h),setRow_setRow,
  setCell_eq_setRow _ g 3 _ t (0,0) _ (setRow_heap w g _ _ t _ h),setRow_setRow,
  setCell_eq_setRow _ g 4 _ t (0,0) _ (setRow_heap w g _ _ t _ h),setRow_setRow,
  setCell_eq_setRow _ g 5 _ t (0,0) _ (setRow_heap w g _ _ t _ h),setRow_setRow]
 simp
theorem put6_box {w:World} {g:Nat} {t:TypeId} {z:Acct} (h:BoxA w g t z) (a:Acct):BoxA (put6 w g a) g t a∧w.grownBy (put6 w g a) (some g):=by
 rw [put6_eq h a];exact ⟨h.set a,grownBy_setRow w g _⟩
theorem BoxA.free {w:World} {b:Nat} {t:TypeId} {a:Acct} (h:BoxA w b t a) (o:Nat):w.frozen? ⟨b,o,none⟩=false:=by unfold BoxA at h;simp [World.frozen?,h]
abbrev zcells:Array Value:=#[.string ⟨#[]⟩,.int .i64 0,.bool false,.bool false,.string ⟨#[]⟩,.bool false]
theorem below_undrew {B:Nat} {w w':World} (h:Below B w.drew w'):Below B w w':=⟨h.os,h.tape,h.output,h.size,h.block⟩
def ParseAt (w wx:World) (g:Nat) (A:Acct):Prop:=BoxA wx g 192 A∧w.heap.size < g∧Below (w.heap.size+1) (w.alloc (.cells zcells 192)) wx
theorem parseAt_late {w W0 w5:World} {A M:Acct} (hW:w.alloc (.cells zcells 192)=W0) (hA:M=A) (hb5:Below W0.drew.heap.size W0.drew w5) :
 ParseAt w (w5.alloc (.cells #[.string M.code,.int .i64 M.cls,.bool M.cash,.bool M.both,.string M.fixed,.bool M.worn] 192)) w5.heap.size A:=by
 subst hA
 have hz:W0.heap.size=w.heap.size+1:=by rw [←hW];simp
 have hb:Below (w.heap.size+1) W0 w5:=by rw [←hz];exact below_undrew hb5
 refine ⟨BoxA.new w5 M _,?_,?_⟩
 ·have:=hb.size;omega
 ·rw [hW];exact hb.alloc (by have:=hb.size;omega) _
theorem parseAt_early {w W0 w5:World} {A M:Acct} (hW:w.alloc (.cells zcells 192)=W0) (hA:M=A) (hx:BoxA w5 W0.heap.size 192 zeroA) (hb5:Below (W0.alloc (.cells zcells 192)).drew.heap.size (W0.alloc (.cells zcells 192)).drew w5) :
 ParseAt w (put6 w5 W0.heap.size M) W0.heap.size A:=by
 subst hA
 have hz:W0.heap.size=w.heap.size+1:=by rw [←hW];simp
 have hb:Below W0.heap.size W0 w5:=((Below.refl W0.heap.size W0).alloc (Nat.le_refl _) _).trans ((below_undrew hb5).mono (by simp))
 obtain ⟨h1,h2⟩:=put6_box hx M
 refine ⟨h1,by omega,?_⟩
 rw [hW,←hz]
 exact hb.grown h2 hb.size (fun j hj=>by cases hj;exact Nat.le_refl _)
set_option maxRecDepth 100000 in
set_option maxHeartbeats 8000000 in
theorem parse_any (v:Value) (ws:List ByteArray) (w:World) (h:StrsV w v ws) (hL:Laid w) :
 Calls Tryz.prog 101 #[v] w fun e w'=>e=.returned (.tuple #[aggF (parseA ws).1,.int .i64 (parseA ws).2])∧Below w.heap.size w w':=by
 have HV:=Lib.hid h
 obtain ⟨p,c,rfl,hcap,hm,hc⟩:=h
 obtain ⟨n,hn⟩:∃ n,ws.length=n:=⟨_,rfl⟩
 rw [hn] at hcap hm HV ⊢
 unfold maxLen at hm
 have HB0:=Lib.hid ((Below.refl w.heap.size w).alloc (Nat.le_refl _) (.cells zcells 192))
 have HX0:=Lib.hid (BoxA.new w zeroA 192)
 by_cases h3:n < 3
 ·have hP:Hid (parseA ws=(zeroA,5)):=Lib.hid (by unfold parseA;rw [if_pos (by rw [hn];exact h3)])
  rw [hP.out]
  have H3:=Lib.hid h3
  clear hn hc
  go_enter Tryz.func101,Tryz.ntmps101
  go_wp2
  refine bodyPost_ret (v:=.tuple #[aggF zeroA,.int .i64 5]) (by simp [results,Tryz.results101,go_sem,zeroA]) rfl ⟨rfl,HB0.out⟩
 ·obtain ⟨A,hA⟩:∃ A,candA ws=A:=⟨_,rfl⟩
  obtain ⟨x1,hx1⟩:∃ x,ws[1]?=some x:=⟨_,List.getElem?_eq_getElem (by omega)⟩
  obtain ⟨x2,hx2⟩:∃ x,ws[2]?=some x:=⟨_,List.getElem?_eq_getElem (by omega)⟩
  obtain ⟨b,o,rfl,k1⟩:=hc 1 x1 hx1
  obtain ⟨b',o',e',k2⟩:=hc 2 x2 hx2
  cases e'
  obtain ⟨v3,hv3,hs3⟩:=strs_tail tail_u tail_s HV.out (k:=3) (by omega)
  have HA:Hid (markedA ⟨x1,clsOf x2,false,false,⟨#[]⟩,false⟩ (ws.drop 3)=A):=Lib.hid (by
   rw [←hA];unfold candA
   rw [List.getD_eq_getElem?_getD,List.getD_eq_getElem?_getD,hx1,hx2];rfl)
  have HP:Hid (parseA ws=if wordsA A=ws then (A,0) else (zeroA,5)):=Lib.hid (by unfold parseA;rw [if_neg (by rw [hn];exact h3),hA])
  obtain ⟨R,hR⟩:∃ R,parseA ws=R:=⟨_,rfl⟩
  rw [hR] at HP ⊢
  have HN:=Lib.hid hn
  have HL0:=Lib.hid (hL.below HB0.out (Nat.le_refl _))
  have HS0:=Lib.hid (hs3.keep HB0.out)
  have HV0:=Lib.hid (HV.out.keep HB0.out)
  have j1:=cell_later HB0.out k1
  have j2:=cell_later HB0.out k2
  clear hA hx1 hx2 hc hn hR hL k1 k2 hs3
  obtain ⟨W0,hW0⟩:∃ W0,w.alloc (.cells zcells 192)=W0:=⟨_,rfl⟩
  have HSZ:Hid (W0.heap.size=w.heap.size+1):=Lib.hid (by rw [←hW0];simp)
  have HX1:Hid (BoxA W0 w.heap.size 192 zeroA):=Lib.hid (by rw [←hW0];exact HX0.out)
  rw [hW0] at HB0 HL0 HS0 HV0 j1 j2
  clear HX0
  go_enter Tryz.func101,Tryz.ntmps101
  go_upto_region 3 with (fail)
  have HW0:=Lib.hid hW0
  clear hW0
  go_cut [4] (fun s4 wx=>∃ g,s4=.pointer (some ⟨g,0,none⟩)∧ParseAt w wx g A)
  case first =>
   have hv:∀ w',(Instr.slice 66 (.slice (some ⟨b,o,none⟩) n c) (some (.int .i64 3)) none none).run Tryz.prog w'=.ok v3 w':=hv3
   clear hv3
   have l1:(1:Int) < (n:Int):=by omega
   have l2:(2:Int) < (n:Int):=by omega
   have n1:=cell_later ((Below.refl W0.heap.size W0).alloc (Nat.le_refl _) (.cells zcells 192)) j1
   have n2:=cell_later ((Below.refl W0.heap.size W0).alloc (Nat.le_refl _) (.cells zcells 192)) j2
   have y1:W0.drew.cell? ⟨b,o+1,none⟩=some (.string x1):=j1
   have y2:W0.drew.cell? ⟨b,o+2,none⟩=some (.string x2):=j2
   have z1:(W0.alloc (.cells zcells 192)).drew.cell? ⟨b,o+1,none⟩=some (.string x1):=n1
   have z2:(W0.alloc (.cells zcells 192)).drew.cell? ⟨b,o+2,none⟩=some (.string x2):=n2
   have HLa:=Lib.hid (HL0.out.below ((Below.refl W0.heap.size W0).alloc (Nat.le_refl _) (.cells zcells 192)) (Nat.le_refl _))
   have HSa:=Lib.hid (HS0.out.keep ((Below.refl W0.heap.size W0).alloc (Nat.le_refl _) (.cells zcells 192)))
   have HNE:Hid (some b≠some W0.heap.size):=Lib.hid (fun e=>World.new_ne W0 _ j1 (Option.some.inj e).symm)
   have HXa:=Lib.hid (BoxA.new W0 zeroA 192)
   go_region_held3 (fun w'=>w'.cell? ⟨b,o+1,none⟩=some (.string x1)∧w'.cell? ⟨b,o+2,none⟩=some (.string x2))
    (first | (with_reducible exact ⟨j1,j2⟩) | (with_reducible exact ⟨y1,y2⟩) | (with_reducible exact ⟨n1,n2⟩) | (with_reducible exact ⟨z1,z2⟩) | (with_reducible exact ⟨m1,m2⟩) | (with_reducible exact ⟨p1 _,p2 _⟩) | (with_reducible exact ⟨s1,s2⟩) | fail)
    (first
     | (go_at_call 137;refine (classOf_any x2 W0.drew ⟨HL0.out.g0,HL0.out.g1,HL0.out.g2⟩).mono ?_;rintro e w' ⟨rfl,rfl⟩)
     | (go_at_call 137;refine (classOf_any x2 (W0.alloc (.cells zcells 192)).drew ⟨HLa.out.g0,HLa.out.g1,HLa.out.g2⟩).mono ?_;rintro e w' ⟨rfl,rfl⟩)
     | (go_at_call 136;refine (marked_any ⟨x1,clsOf x2,false,false,⟨#[]⟩,false⟩ v3 (ws.drop 3) W0.drew HS0.out).mono ?_;rintro e w5 ⟨rfl,hb5⟩;have m1:=cell_later hb5 j1;have m2:=cell_later hb5 j2;have p1:=fun C:Array Value=>cell_later ((Below.refl w5.heap.size w5).alloc (Nat.le_refl _) (.cells C 192)) m1;have p2:=fun C:Array Value=>cell_later ((Below.refl w5.heap.size w5).alloc (Nat.le_refl _) (.cells C 192)) m2)
     | (go_at_call 136;refine (marked_any ⟨x1,clsOf x2,false,false,⟨#[]⟩,false⟩ v3 (ws.drop 3) (W0.alloc (.cells zcells 192)).drew HSa.out).mono ?_;rintro e w5 ⟨rfl,hb5⟩;have m1:=cell_later hb5 n1;have m2:=cell_later hb5 n2;have HX5:Hid (BoxA w5 W0.heap.size 192 zeroA):=Lib.hid (BoxA.keep (w:=(W0.alloc (.cells zcells 192)).drew) HXa.out hb5 (by simp));obtain ⟨d0,d1,d2,d3,d4,d5⟩:=HX5.out.facts;have f0:=HX5.out.free 0;have f1:=HX5.out.free 1;have f2:=HX5.out.free 2;have f3:=HX5.out.free 3;have f4:=HX5.out.free 4;have f5:=HX5.out.free 5;have s1:=(put6_box HX5.out (markedA ⟨x1,clsOf x2,false,false,⟨#[]⟩,false⟩ (ws.drop 3))).2.cell m1 HNE.out;have s2:=(put6_box HX5.out (markedA ⟨x1,clsOf x2,false,false,⟨#[]⟩,false⟩ (ws.drop 3))).2.cell m2 HNE.out)
     | fail)
   all_goals
    go_wp2_with fail
    go_meet
    case rel =>
     refine ⟨_,rfl,?_⟩
     first | (with_reducible exact parseAt_late HW0.out HA.out hb5) | (with_reducible exact parseAt_early HW0.out HA.out HX5.out hb5)
  case rest =>
   obtain ⟨g,rfl,hP⟩:=hcut
   rename World=>wx
   obtain ⟨hx,hg,hb⟩:=hP
   rw [HW0.out] at hb
   rw [←HSZ.out] at hb
   have HXR:=Lib.hid (HX1.out.keep hb (by rw [HSZ.out];omega))
   have HBX:=Lib.hid (HB0.out.trans (hb.mono (by rw [HSZ.out];omega)))
   have HLX:=Lib.hid (HL0.out.below hb (Nat.le_refl _))
   have HVX:=Lib.hid (HV0.out.keep hb)
   have HX:=Lib.hid hx
   obtain ⟨d0,d1,d2,d3,d4,d5⟩:=hx.facts
   have hlt:w.heap.size < wx.heap.size:=by have:=hb.size;rw [HSZ.out] at this;omega
   have hgx:g < wx.heap.size:=World.block_lt_of_cell? wx _ d0
   clear hx hb hv3 j1 j2
   go_wp2_with fail
   clear d0 d1 d2 d3 d4 d5
   refine (words_any A _ HLX.out).mono ?_
   rintro e w6 ⟨v6,rfl,hs6,hb6⟩
   have HS6:=Lib.hid hs6
   have HV6:=Lib.hid (HVX.out.keep hb6)
   have HXR6:=Lib.hid (HXR.out.keep hb6 hlt)
   have HX6:=Lib.hid (HX.out.keep hb6 hgx)
   have HB6:=Lib.hid (HBX.out.trans (hb6.mono HBX.out.size))
   clear hs6 hb6
   go_wp2_with fail
   refine (equal_any _ _ _ ws _ HS6.out HV6.out).mono ?_
   rintro e w7 ⟨rfl,q,hq⟩
   have HXR7:Hid (BoxA w7 w.heap.size 192 zeroA):=Lib.hid (by rw [hq];exact HXR6.out)
   have HX7:Hid (BoxA w7 g 192 A):=Lib.hid (by rw [hq];exact HX6.out)
   have HB7:Hid (Below w.heap.size w w7):=Lib.hid (by rw [hq];exact below_drewN HB6.out q)
   clear hq
   by_cases hw:wordsA A=ws
   ·have hsm:Hid (sameW (wordsA A) ws=true):=Lib.hid (decide_eq_true hw)
    have hRR:Hid (R=(A,0)):=Lib.hid (by rw [HP.out,if_pos hw])
    rw [hsm.out]
    clear hw
    obtain ⟨d0,d1,d2,d3,d4,d5⟩:=HX7.out.facts
    go_wp2_with (refine wpList_store_acct rfl 192 (.tmp 2) (.tmp 26) rfl w.heap.size zeroA A 192 rfl rfl HXR7.out (by kernel_rfl) ?_;intro w8 hb8 hg8)
    have HF:=Lib.hid (HB7.out.grown hg8 HB7.out.size (fun j hj=>by cases hj;exact Nat.le_refl _))
    obtain ⟨t0,t1,t2,t3,t4,t5⟩:=hb8.facts
    clear hb8 hg8
    refine bodyPost_ret (v:=.tuple #[aggF A,.int .i64 0]) (by simp [results,Tryz.results101,go_sem,t0,t1,t2,t3,t4,t5]) rfl ⟨by rw [hRR.out],HF.out⟩
   ·have hsm:Hid (sameW (wordsA A) ws=false):=Lib.hid (decide_eq_false hw)
    have hRR:Hid (R=(zeroA,5)):=Lib.hid (by rw [HP.out,if_neg hw])
    rw [hsm.out]
    clear hw
    go_wp2_with (refine wpList_store_acct rfl 192 (.tmp 2) (.tmp 25) rfl w.heap.size zeroA zeroA 192 rfl rfl HXR7.out (by kernel_rfl) ?_;intro w8 hb8 hg8)
    have HF:=Lib.hid (HB7.out.grown hg8 HB7.out.size (fun j hj=>by cases hj;exact Nat.le_refl _))
    obtain ⟨t0,t1,t2,t3,t4,t5⟩:=hb8.facts
    clear hb8 hg8
    refine bodyPost_ret (v:=.tuple #[aggF zeroA,.int .i64 5]) (by simp [results,Tryz.results101,go_sem,t0,t1,t2,t3,t4,t5]) rfl ⟨by rw [hRR.out],HF.out⟩
end Go.Proofs.YthcpglnmhimepaaGreatDoor
