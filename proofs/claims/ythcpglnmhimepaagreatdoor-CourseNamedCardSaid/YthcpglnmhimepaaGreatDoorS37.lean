/- CsReadP CsPut CsParse CsParseP CsOfP CsPrintP UnitDocPrint CsPrint -/
import Derived.Test.YthcpglnmhimepaaGreatDoorS33
import Derived.Test.YthcpglnmhimepaaGreatDoorS34
import Derived.Test.YthcpglnmhimepaaGreatDoorS35
section
namespace Go.Proofs.YthcpglnmhimepaaGreatDoor.Cs.Ta
open Go.RowKit Go.Proofs.YthcpglnmhimepaaGreatDoor.Un Go.Proofs.YthcpglnmhimepaaGreatDoor.Pk
def lineE (M:Mast) (ws:List ByteArray):Int:=if readE ws=0 then chkE M (readV ws).key else readE ws
theorem step_line (M:Mast) (L:List Crs) (ws:List ByteArray):stepE M L ws=if lineE M ws=0 then tabE L (readV ws) else lineE M ws:=by
 unfold stepE lineE
 by_cases h:readE ws=0
 ·rw [if_pos h,if_pos h,chk_step]
 ·rw [if_neg h,if_neg h,if_neg h]
set_option maxRecDepth 100000 in
set_option maxHeartbeats 16000000 in
theorem read_any (c f e l:Value) (M:Mast) (v:Value) (ws:List ByteArray) (w:World) (hM:MastIn w c f e l M) (hr:riseK Fl.Flow.code M.flows=true) (hlf:M.flows.length≤1000) (hV:StrsV w v ws) (h0:ws≠[]) (hl:ws.length≤30000) (hz:∀ s∈ws,s.size≤700000) (hLC:LaidC w) :
 Calls Tryz.prog 24 #[aggM c f e l M,v] w (ReadTold w ws (lineE M ws)):=by
 obtain ⟨pc,cc,pf,cf,pe,ce,pl,cl,rfl,rfl,rfl,rfl⟩:=shapes hM
 obtain ⟨pv,cp,rfl,hcap,hmx,hcl⟩:=id hV
 have HZ:=Lib.hid hz
 obtain ⟨R,hR⟩:∃ R,lineE M ws=R:=⟨_,rfl⟩
 have HR:Hid ((if readE ws=0 then chkE M (readV ws).key else readE ws)=R):=Lib.hid hR
 rw [hR]
 obtain ⟨W1,hW1⟩:∃ W1,w.alloc (.cells (cellsM (.slice pc M.chart.length cc) (.slice pf M.flows.length cf) (.slice pe M.ents.length ce) (.slice pl M.lines.length cl) M) 30)=W1:=⟨_,rfl⟩
 have hb1:Below w.heap.size w W1:=by rw [←hW1];exact (Below.refl _ w).alloc (Nat.le_refl _) _
 have hn1:NineAt W1 w.heap.size (.slice pc M.chart.length cc) (.slice pf M.flows.length cf) (.slice pe M.ents.length ce) (.slice pl M.lines.length cl) M:=by rw [←hW1];exact nine_new w _ _ _ _ M _
 have hs1:W1.heap.size=w.heap.size+1:=by rw [←hW1,World.size_alloc]
 have hb12:=(Below.refl W1.heap.size W1).alloc (Nat.le_refl _) (.cells (encX.cs zX).toArray 85)
 have hx2:=BoxE.new encX W1 zX 85
 obtain ⟨W2,hW2⟩:∃ W2,W1.alloc (.cells #[.string ⟨#[]⟩,.string ⟨#[]⟩,.string ⟨#[]⟩,.int .i64 0,.int .i64 0] 85)=W2:=⟨_,rfl⟩
 replace hb12:Below W1.heap.size W1 W2:=by rw [←hW2];exact hb12
 replace hx2:BoxE encX W2 W1.heap.size 85 zX:=by rw [←hW2];exact hx2
 rw [hs1] at hx2
 have hb2:=hb1.trans (hb12.mono hb1.size)
 have HB2:=Lib.hid hb2
 have HN2:=Lib.hid (hn1.kept hb12)
 have HX2:=Lib.hid hx2
 have HS1:=Lib.hid hs1
 have HM2:=Lib.hid (hM.keep hb2)
 have HL2:=Lib.hid (hLC.below hb2)
 have HKO:=Lib.hid (keyOf_any (.slice pv ws.length cp) ws W2 (hV.keep hb2) h0 hl (fun s hs=>Nat.le_trans (hz s hs) (by decide)))
 have hch:=fun k W h=>check_any (.slice pc M.chart.length cc) (.slice pf M.flows.length cf) (.slice pe M.ents.length ce) (.slice pl M.lines.length cl) M k W h hr hlf
 have HCH:=Lib.hid hch
 obtain ⟨F,hF⟩:∃ F,formC ws=F:=⟨_,rfl⟩
 rw [hF] at HKO
 obtain ⟨n,hn⟩:∃ n,ws.length=n:=⟨_,rfl⟩
 have hnp:0 < n:=by
  rw [←hn]
  cases ws with
  | nil=>exact absurd rfl h0
  | cons a r=>simp
 obtain ⟨s,hs⟩:∃ s,ws[n - 1]?=some s:=⟨_,List.getElem?_eq_getElem (by omega)⟩
 have hrw:rateW ws=s.data.toList:=by
  unfold rateW wd
  rw [List.getD_eq_getElem?_getD,hn,hs]
  rfl
 have hsz:s.size≤700000:=hz s (List.mem_of_getElem? hs)
 have HSZ:=Lib.hid hsz
 obtain ⟨pb,po,e0,d0⟩:=hcl (n - 1) s hs
 cases e0
 have hd0:=(hb2.cell (p:=⟨pb,po+(n - 1),none⟩) (World.block_lt_of_cell? w _ d0)).trans d0
 have HD2:=Lib.hid hd0
 have HRE:Hid (F=false→R=5):=Lib.hid (fun h=>by
  rw [←HR.out]
  have:readE ws=5:=by unfold readE;rw [hF,h];rfl
  rw [this];rfl)
 obtain ⟨E,hE⟩:∃ E,prsE s.data.toList=E:=⟨_,rfl⟩
 obtain ⟨N,hN⟩:∃ N,prsN s.data.toList=N:=⟨_,rfl⟩
 obtain ⟨D,hD⟩:∃ D,prsD s.data.toList=D:=⟨_,rfl⟩
 have HRT:Hid (F=true→(E≠0→R=E)∧(E=0→R=chkE M (readV ws).key)):=Lib.hid (fun h=>by
  have:readE ws=E:=by unfold readE;rw [hF,h,if_pos rfl,hrw,hE]
  rw [this] at HR
  exact ⟨fun h1=>by rw [←HR.out,if_neg h1],fun h1=>by rw [←HR.out,if_pos h1]⟩)
 have HRV:Hid ((readV ws).num=N∧(readV ws).den=D):=Lib.hid (by
  show prsN (rateW ws)=N∧prsD (rateW ws)=D
  rw [hrw];exact ⟨hN,hD⟩)
 have hpr:=fun W h=>Ra.rparse_any s W (by omega) h
 simp only [hE,hN,hD] at hpr
 have HPR:=Lib.hid hpr
 rw [hn] at HKO hl hcap
 rw [hn]
 unfold maxLen at hmx
 clear hM hr hlf hV h0 hz hLC hcl hR hb1 hn1 hs1 hb12 hx2 hb2 hF hrw hs hsz d0 hE hN hD hpr hd0 hch hn
 go_enter Tryz.func24,Tryz.ntmps24
 go_wp2_with fail
 clear hW1 hW2
 refine HKO.out.mono ?_
 rintro en w3 ⟨k,rfl,hk,hb3⟩
 have HKK:=Lib.hid hk
 have hb4:=hb3.alloc hb3.size (.cells (encT.cs k).toArray 83)
 have hk4:=BoxE.new encT w3 k 83
 obtain ⟨W4,hW4⟩:∃ W4,w3.alloc (.cells #[.string k.1,.string k.2.1,.string k.2.2] 83)=W4:=⟨_,rfl⟩
 replace hb4:Below W2.heap.size W2 W4:=by rw [←hW4];exact hb4
 replace hk4:BoxE encT W4 w3.heap.size 83 k:=by rw [←hW4];exact hk4
 have HB4:=Lib.hid (HB2.out.trans (hb4.mono HB2.out.size))
 have HN4:=Lib.hid (HN2.out.kept hb4)
 have HX4:=Lib.hid (HX2.out.kept hb4)
 have HM4:=Lib.hid (HM2.out.keep hb4)
 have HL4:=Lib.hid (HL2.out.below hb4)
 have HD4:=Lib.hid ((hb4.cell (World.block_lt_of_cell? _ _ HD2.out)).trans HD2.out)
 have HK4:=Lib.hid hk4
 rw [HS1.out]
 clear hb3 hk hb4 hk4 HB2 HN2 HX2 HM2 HL2 HD2 HKO
 cases F with
 | false =>
   have HRR:Hid (R=5):=Lib.hid (HRE.out rfl)
   go_wp2_with (first
    | (refine wpList_store_el (E:=encX) rfl 85 (.tmp 4) (.tmp 18) rfl (w.heap.size+1) zX zX 85 rfl rfl HX4.out (by kernel_rfl) ?_;intro w9 hb9 hg9)
    | fail)
   have HF9:=Lib.hid (HB4.out.grown hg9 HB4.out.size (fun j hj=>by cases hj;exact Nat.le_succ _))
   obtain ⟨j0,j1,j2,j3,j4⟩:=crs5 hb9.at0
   simp only [Nat.zero_add] at j0 j1 j2 j3 j4
   clear hb9 hg9
   exact bodyPost_ret (v:=.tuple #[aggX zX,.int .i64 5]) (by simp [results,Tryz.results24,go_sem,j0,j1,j2,j3,j4]) rfl ⟨zX,by rw [HRR.out],fun h=>absurd h (by rw [HRR.out];decide),HF9.out⟩
 | true =>
   have HRT2:=Lib.hid (HRT.out rfl)
   have HKV:Hid ((readV ws).key=k):=Lib.hid (HKK.out rfl)
   clear HRT HKK HRE
   have d4:=HD4.out
   have hwn:IntKind.i64.wrap ((n:Int) - 1)=((n - 1:Nat):Int):=by rw [IntKind.wrap_i64];omega
   go_wp2_with fail
   clear hW4 d4
   refine (HPR.out _ HL4.out).mono ?_
   rintro en w5 ⟨rfl,hb5⟩
   have hb6:=hb5.alloc hb5.size (.cells #[.int .i64 N,.int .i64 D] 53)
   have hr6:=Ra.RateAt.mk w5 N D 53
   obtain ⟨W6,hW6⟩:∃ W6,w5.alloc (.cells #[.int .i64 N,.int .i64 D] 53)=W6:=⟨_,rfl⟩
   rw [hW6] at hb6 hr6
   have HB6:=Lib.hid (HB4.out.trans (hb6.mono HB4.out.size))
   have HN6:=Lib.hid (HN4.out.kept hb6)
   have HX6:=Lib.hid (HX4.out.kept hb6)
   have HM6:=Lib.hid (HM4.out.keep hb6)
   have HK6:=Lib.hid (HK4.out.kept hb6)
   have HR6:=Lib.hid hr6
   have HCK:=Lib.hid (HCH.out k W6 HM6.out)
   obtain ⟨C,hC⟩:∃ C,chkE M k=C:=⟨_,rfl⟩
   rw [hC] at HCK
   have HRC:Hid (E=0→R=C):=Lib.hid (fun h=>by rw [HRT2.out.2 h,HKV.out,hC])
   clear hb5 hb6 hr6 HB4 HN4 HX4 HM4 HK4 HL4 HD4 HPR HCH hC
   by_cases hE0:E=0
   ·subst hE0
    have HRR:Hid (R=C):=Lib.hid (HRC.out rfl)
    obtain ⟨k0,k1,k2,k3,k4,k5,k6,k7,k8⟩:=HN6.out
    obtain ⟨y0,y1,y2⟩:=key3 HK6.out.at0
    simp only [Nat.zero_add] at y0 y1 y2
    go_wp2_with fail
    clear k0 k1 k2 k3 k4 k5 k6 k7 k8 y0 y1 y2 hW6
    refine HCK.out.mono ?_
    rintro en w7 ⟨rfl,hb7⟩
    have HB7:=Lib.hid (HB6.out.trans (hb7.mono HB6.out.size))
    have HX7:=Lib.hid (HX6.out.kept hb7)
    have HK7:=Lib.hid (HK6.out.kept hb7)
    have HR7:=Lib.hid (HR6.out.keep hb7 (Nat.le_refl _))
    clear hb7 HB6 HX6 HK6 HR6 HN6 HM6 HCK
    by_cases hC0:C=0
    ·subst hC0
     obtain ⟨y0,y1,y2⟩:=key3 HK7.out.at0
     simp only [Nat.zero_add] at y0 y1 y2
     obtain ⟨z0,z1⟩:=HR7.out
     go_wp2_with (first
      | (refine wpList_store_el (E:=encX) rfl 85 (.tmp 4) (.tmp 42) rfl (w.heap.size+1) zX (⟨k.1,k.2.1,k.2.2,N,D⟩:Crs) 85 rfl rfl HX7.out (by kernel_rfl) ?_;intro w9 hb9 hg9)
      | fail)
     have HF9:=Lib.hid (HB7.out.grown hg9 HB7.out.size (fun j hj=>by cases hj;exact Nat.le_succ _))
     obtain ⟨j0,j1,j2,j3,j4⟩:=crs5 hb9.at0
     simp only [Nat.zero_add] at j0 j1 j2 j3 j4
     clear hb9 hg9
     have HVV:Hid (readV ws=⟨k.1,k.2.1,k.2.2,N,D⟩):=Lib.hid (by
      have h1:=HKV.out
      have h2:=HRV.out
      rw [←h1,←h2.1,←h2.2])
     exact bodyPost_ret (v:=.tuple #[aggX (⟨k.1,k.2.1,k.2.2,N,D⟩:Crs),.int .i64 0]) (by simp [results,Tryz.results24,go_sem,j0,j1,j2,j3,j4]) rfl ⟨⟨k.1,k.2.1,k.2.2,N,D⟩,by rw [HRR.out],fun _=>HVV.out,HF9.out⟩
    ·have hne:(C != 0)=true:=by simp [hC0]
     have HCN:=Lib.hid hC0
     clear hC0
     go_wp2_with (first
      | (refine wpList_store_el (E:=encX) rfl 85 (.tmp 4) (.tmp 38) rfl (w.heap.size+1) zX zX 85 rfl rfl HX7.out (by kernel_rfl) ?_;intro w9 hb9 hg9)
      | fail)
     have HF9:=Lib.hid (HB7.out.grown hg9 HB7.out.size (fun j hj=>by cases hj;exact Nat.le_succ _))
     obtain ⟨j0,j1,j2,j3,j4⟩:=crs5 hb9.at0
     simp only [Nat.zero_add] at j0 j1 j2 j3 j4
     clear hb9 hg9
     exact bodyPost_ret (v:=.tuple #[aggX zX,.int .i64 C]) (by simp [results,Tryz.results24,go_sem,j0,j1,j2,j3,j4]) rfl ⟨zX,by rw [HRR.out],fun h=>absurd (HRR.out.symm.trans h) HCN.out,HF9.out⟩
   ·have HRR:Hid (R=E):=Lib.hid (HRT2.out.1 hE0)
    have hne:(E != 0)=true:=by simp [hE0]
    have HEN:=Lib.hid hE0
    clear hE0
    go_wp2_with (first
     | (refine wpList_store_el (E:=encX) rfl 85 (.tmp 4) (.tmp 31) rfl (w.heap.size+1) zX zX 85 rfl rfl HX6.out (by kernel_rfl) ?_;intro w9 hb9 hg9)
     | fail)
    have HF9:=Lib.hid (HB6.out.grown hg9 HB6.out.size (fun j hj=>by cases hj;exact Nat.le_succ _))
    obtain ⟨j0,j1,j2,j3,j4⟩:=crs5 hb9.at0
    simp only [Nat.zero_add] at j0 j1 j2 j3 j4
    clear hb9 hg9
    exact bodyPost_ret (v:=.tuple #[aggX zX,.int .i64 E]) (by simp [results,Tryz.results24,go_sem,j0,j1,j2,j3,j4]) rfl ⟨zX,by rw [HRR.out],fun h=>absurd (HRR.out.symm.trans h) HEN.out,HF9.out⟩
end Go.Proofs.YthcpglnmhimepaaGreatDoor.Cs.Ta
end
section
namespace Go.Proofs.YthcpglnmhimepaaGreatDoor.Cs.Ta
open Go.RowKit Go.Proofs.YthcpglnmhimepaaGreatDoor.Un Go.Proofs.YthcpglnmhimepaaGreatDoor.Pk
structure TbAt (W:World) (B R:Nat) (v:Value) (L:List Crs):Prop where
 box:W.heap[R]?=some (.cells #[v] 41 (0,0))
 row:W.ownsRow B 85 5 v L.length (flat encX L)
 geR:B≤R
section
variable {W W':World} {B R:Nat} {v:Value} {L:List Crs}
theorem TbAt.lt (h:TbAt W B R v L):R < W.heap.size:=(Array.getElem?_eq_some_iff.1 h.box).1
theorem TbAt.below (h:TbAt W B R v L) (hb:Below W.heap.size W W'):TbAt W' B R v L:=⟨(hb.block R h.lt).trans h.box,row_below h.row hb,h.geR⟩
theorem TbAt.cell (h:TbAt W B R v L):W.cell? ⟨R,0,none⟩=some v:=(cell_of_row W R 0 _ _ (0,0) h.box).trans rfl
theorem TbAt.tab (h:TbAt W B R v L):TabV W v L:=els_of_own h.row
theorem TbAt.new (w:World):TbAt (w.alloc (.cells #[.slice none 0 0] 41)) w.heap.size w.heap.size (.slice none 0 0) []:=⟨heap_alloc_new w _,World.ownsRow_nil _ _ _ _,Nat.le_refl _⟩
end
def PutTold (w:World) (B R:Nat) (M:List Crs) (E:Int) (e:Ending) (w':World):Prop:=e=.returned (.int .i64 E)∧Below B w w'∧(E=0→∃ v',TbAt w' B R v' M)
theorem tab_is {L:List Crs} (hr:G.riseK Crs.key L=true) (x:Crs):tabE L x=if G.isK Crs.key L x.key=true then 7 else if 500≤L.length then 4 else 0:=by
 unfold tabE
 rw [(G.isK_find hr x.key).1]
set_option maxRecDepth 100000 in
set_option maxHeartbeats 8000000 in
theorem put_any (v:Value) (L:List Crs) (x:Crs) (B R:Nat) (w:World) (h:TbAt w B R v L) (hr:G.riseK Crs.key L=true) (hL:L.length≤500) :
 Calls Tryz.prog 25 #[.pointer (some ⟨R,0,none⟩),aggX x] w (PutTold w B R (G.insK Crs.key L x) (tabE L x)):=by
 obtain ⟨p,c,rfl,hcap,hcm⟩:∃ p c,v=.slice p L.length c∧L.length≤c∧c≤maxLen:=by
  obtain ⟨p,c,e,h1,h2,_⟩:=els_of_own h.row
  exact ⟨p,c,e,h1,h2⟩
 have hb1:=(Below.refl w.heap.size w).alloc (Nat.le_refl _) (.cells (encX.cs x).toArray 85)
 have hx1:=BoxE.new encX w x 85
 obtain ⟨W1,hW1⟩:∃ W1,w.alloc (.cells #[.string x.sort,.string x.flw,.string x.cur,.int .i64 x.num,.int .i64 x.den] 85)=W1:=⟨_,rfl⟩
 replace hb1:Below w.heap.size w W1:=by rw [←hW1];exact hb1
 replace hx1:BoxE encX W1 w.heap.size 85 x:=by rw [←hW1];exact hx1
 have hgR:=h.geR
 have hRw:=h.lt
 have hBw:B≤w.heap.size:=by omega
 have HB1:=Lib.hid hb1
 have HX1:=Lib.hid hx1
 have HT1:=Lib.hid (h.below hb1)
 have HRW:=Lib.hid hRw
 have hlt:∀ g,(Value.slice p L.length c).ownBlock=some g→B≤g∧g < w.heap.size:=fun g e=>h.row.lt g e
 have HBW:=Lib.hid hBw
 have HLL:=Lib.hid hL
 have HPL:=Lib.hid (fun W (hV:TabV W (.slice p L.length c) L)=>place_any (.slice p L.length c) L x.key W hV hr (by omega))
 have hE:=tab_is hr x
 obtain ⟨E,hEE⟩:∃ E,tabE L x=E:=⟨_,rfl⟩
 have hins:G.insK Crs.key L x=L.take (G.placeK Crs.key L x.key)++x::L.drop (G.placeK Crs.key L x.key):=rfl
 have HPE:=Lib.hid (G.placeK_le (key:=Crs.key) L x.key)
 obtain ⟨M,hM⟩:∃ M,G.insK Crs.key L x=M:=⟨_,rfl⟩
 obtain ⟨pl,hpl⟩:∃ pl,G.placeK Crs.key L x.key=pl:=⟨_,rfl⟩
 obtain ⟨is,his⟩:∃ is,G.isK Crs.key L x.key=is:=⟨_,rfl⟩
 rw [hM,hpl] at hins
 rw [hpl] at HPE
 simp only [hpl,his] at HPL
 rw [hEE,his] at hE
 rw [hEE,hM]
 have HM:=Lib.hid hins
 obtain ⟨n,hn⟩:∃ n,L.length=n:=⟨_,rfl⟩
 have HN:=Lib.hid hn
 rw [hn] at HPL hcap hL hE HT1 HPE hlt
 have HLT:=Lib.hid hlt
 have HE:=Lib.hid hE
 unfold maxLen at hcm
 have hpn:pl≤500:=by have:=HPE.out;omega
 clear h hr hEE hM hpl his hins hE hn hb1 hx1 hgR hRw hBw hlt
 have c0:=HT1.out.cell
 have c1:=fun q:Past W1=>cell_past c0 q
 obtain ⟨x0,x1,x2,x3,x4⟩:=crs5 HX1.out.at0
 simp only [Nat.zero_add] at x0 x1 x2 x3 x4
 have y0:=fun q:Past W1=>cell_past x0 q
 have y1:=fun q:Past W1=>cell_past x1 q
 have y2:=fun q:Past W1=>cell_past x2 q
 clear c0 x0 x1 x2 x3 x4
 go_enter Tryz.func25,Tryz.ntmps25
 go_wp2_with fail
 refine wp_region_plan (.one [0,1,2,3,4] 5 (.last [6,7,8,9,10])) (by kernel_rfl) (by kernel_rfl) (fun d _ _ _ _ h=>by cases d <;> exact h) ?_
 obtain ⟨wq,hwq⟩:∃ wq,W1.drew=wq:=⟨_,rfl⟩
 rw [hwq]
 have HD:=Lib.hid (show Below W1.heap.size W1 wq by rw [←hwq];exact ⟨rfl,rfl,rfl,Nat.le_refl _,fun _ _=>rfl⟩)
 clear hwq hW1
 simp only [wpPlan,pick,nth]
 repeat (go_big_quiet_step (fail))
 refine wpQuiet_nil ?_
 clear c1 y0 y1 y2
 intro K hK
 refine alone_want (by kernel_rfl) ?_
 go_big_op
 refine (HPL.out wq ((TbAt.below HT1.out HD.out).tab)).mono ?_
 rintro en w2 ⟨rfl,hb2⟩
 have HB2:=Lib.hid (HD.out.trans (hb2.mono HD.out.size))
 refine hK _ _ (past_in HB2.out) ?_
 clear hK K hb2 HD HPL
 repeat (go_big_quiet_step (fail))
 refine wpQuiet_nil ?_
 have HB3:=Lib.hid (HB1.out.trans (HB2.out.mono HB1.out.size))
 have HT2:=Lib.hid (HT1.out.below HB2.out)
 have HX2:=Lib.hid (HX1.out.kept HB2.out)
 have HFB:=Lib.hid (HB3.out.mono HBW.out)
 clear HB2 HT1 HX1 HB1
 cases is with
 | true =>
   have HEE:Hid (E=7):=Lib.hid (by rw [HE.out,if_pos rfl])
   go_wp2
   go_ret
   exact ⟨by rw [HEE.out];rfl,HFB.out,fun h0=>by rw [HEE.out] at h0;cases h0⟩
 | false =>
 have HE2:Hid (E=if 500≤n then 4 else 0):=Lib.hid (by rw [HE.out,if_neg (by simp)])
 clear HE
 have c0:=HT2.out.cell
 by_cases h5:500≤n
 ·have HEE:Hid (E=4):=Lib.hid (by rw [HE2.out,if_pos h5])
  go_wp2
  go_ret
  exact ⟨by rw [HEE.out];rfl,HFB.out,fun h0=>by rw [HEE.out] at h0;cases h0⟩
 ·have HEE:Hid (E=0):=Lib.hid (by rw [HE2.out,if_neg h5])
  have hR2:=HT2.out.lt
  have hne:(Value.slice p n c).ownBlock≠some R:=box_apart HT2.out.box HT2.out.row (by decide)
  have hlt:=HLT.out
  have hxo:(fun j=>j≠R∧some j≠(Value.slice p n c).ownBlock) w.heap.size:=⟨fun e=>by have:=HRW.out;omega,fun e=>by have:=(hlt _ e.symm).2;omega⟩
  obtain ⟨x0,x1,x2,x3,x4⟩:=crs5 HX2.out.at0
  simp only [Nat.zero_add] at x0 x1 x2 x3 x4
  have y0:=fun q:Leave (fun j=>j≠R∧some j≠(Value.slice p n c).ownBlock) w2=>cell_leave x0 hxo q
  have y1:=fun q:Leave (fun j=>j≠R∧some j≠(Value.slice p n c).ownBlock) w2=>cell_leave x1 hxo q
  have y2:=fun q:Leave (fun j=>j≠R∧some j≠(Value.slice p n c).ownBlock) w2=>cell_leave x2 hxo q
  have y3:=fun q:Leave (fun j=>j≠R∧some j≠(Value.slice p n c).ownBlock) w2=>cell_leave x3 hxo q
  have y4:=fun q:Leave (fun j=>j≠R∧some j≠(Value.slice p n c).ownBlock) w2=>cell_leave x4 hxo q
  have HNE:=Lib.hid hne
  clear x0 x1 x2 x3 x4 hxo hlt hne hR2
  go_wp2_with fail
  clear c0
  refine wp_region_plan_if (S:=fun w'=>∃ q:Leave (fun j=>j≠R∧some j≠(Value.slice p n c).ownBlock) w2,w'=q.its) (.two [0,1,2,3,5,6] 4 (.one [] 7 (.one [] 8 (.one [9,10] 11 (.last [])))) 7 (.one [] 4 (.one [] 8 (.one [9,10] 11 (.last []))))) (by kernel_rfl) (by kernel_rfl) (fun d _ _ _ _ h=>by cases d <;> exact h) ⟨⟨w2.drew,fun _ _ _=>rfl⟩,rfl⟩ ?_
  obtain ⟨wz,hwz⟩:∃ wz,w2.drew=wz:=⟨_,rfl⟩
  rw [hwz]
  have HD:=Lib.hid (show Below w2.heap.size w2 wz by rw [←hwz];exact ⟨rfl,rfl,rfl,Nat.le_refl _,fun _ _=>rfl⟩)
  clear hwz
  have HTZ:=Lib.hid (HT2.out.below HD.out)
  simp only [wpPlan,pick,nth]
  repeat (go_big_quiet_step (fail))
  refine wpQuiet_nil ?_
  clear y0 y1 y2 y3 y4
  have hb3:=(Below.refl wz.heap.size wz).alloc (Nat.le_refl _) (.cells (encX.cs x).toArray 85)
  have hx3:=BoxE.new encX wz x 85
  obtain ⟨W3,hW3⟩:∃ W3,wz.alloc (.cells #[.string x.sort,.string x.flw,.string x.cur,.int .i64 x.num,.int .i64 x.den] 85)=W3:=⟨_,rfl⟩
  replace hb3:Below wz.heap.size wz W3:=by rw [←hW3];exact hb3
  replace hx3:BoxE encX W3 wz.heap.size 85 x:=by rw [←hW3];exact hx3
  have HZ3:=Lib.hid (HD.out.trans (hb3.mono HD.out.size))
  have HT3:=Lib.hid (HTZ.out.below hb3)
  have HX3:=Lib.hid hx3
  have HSZ:Hid (w.heap.size≤wz.heap.size):=Lib.hid (Nat.le_trans HB3.out.size HD.out.size)
  have HFB3:=Lib.hid (HFB.out.trans (HZ3.out.mono (Nat.le_trans HBW.out HFB.out.size)))
  have HBS3:Hid (B≤W3.heap.size):=Lib.hid (Nat.le_trans HBW.out HFB3.out.size)
  have d0:=HTZ.out.cell
  have d3:=HT3.out.cell
  clear hb3 hx3
  refine ⟨?ga,?gb⟩
  case' ga =>
   intro K hK
   refine alone_want (by kernel_rfl) ?_
   go_big_op
   refine hK _ _ (leave_in fun j _ hjl=>HD.out.block j hjl) ?_
   clear hK K
   refine wpQuiet_nil ?_
   intro K hK
   refine alone_want (by kernel_rfl) ?_
   go_big_op
   refine hK _ _ (leave_in fun j _ hjl=>HZ3.out.block j hjl) ?_
   clear hK K
   refine wpQuiet_nil ?_
  case' gb =>
   intro K hK
   refine alone_want (by kernel_rfl) ?_
   go_big_op
   refine hK _ _ (leave_in fun j _ hjl=>HZ3.out.block j hjl) ?_
   clear hK K
   refine wpQuiet_nil ?_
   intro K hK
   refine alone_want (by kernel_rfl) ?_
   go_big_op
   refine hK _ _ (leave_in fun j _ hjl=>HZ3.out.block j hjl) ?_
   clear hK K
   refine wpQuiet_nil ?_
  all_goals
   clear d0 d3 hW3
   intro K hK
   refine alone_want (by kernel_rfl) ?_
   go_big_op
   refine (insert_own (.slice p n c) L x pl wz.heap.size B W3 (by rw [HN.out];have:=HT3.out.row;rw [HN.out] at this;exact this) HBS3.out HX3.out (fun e=>by have:=(HLT.out _ e).2;have:=HSZ.out;omega) (by rw [HN.out];exact HPE.out) (by have:=HLL.out;omega)).mono ?_
   rintro e w9 ⟨v9,rfl,ho9,hg9⟩
   rw [←HM.out] at ho9
   obtain ⟨p9,k9,rfl⟩:=Un.Li.row_slice9 ho9
   have hbx:w9.heap[R]?=some (.cells #[.slice p n c] 41 (0,0)):=(hg9.block R (HT3.out.lt) (fun e=>HNE.out e.symm)).trans HT3.out.box
   have HBX:=Lib.hid hbx
   have HO9:=Lib.hid ho9
   have HG9:=Lib.hid hg9
   have HF9:=Lib.hid (HFB3.out.grown hg9 HBS3.out (fun j hj=>(HLT.out j hj).1))
   have fz:w9.frozen? ⟨R,0,none⟩=false:=by simp [World.frozen?,hbx]
   have c9:w9.cell? ⟨R,0,none⟩=some (.slice p n c):=(cell_of_row w9 R 0 _ _ (0,0) hbx).trans rfl
   refine hK _ _ (leave_in fun j hj hjl=>?_) ?_
   ·rw [hg9.block j (Nat.lt_of_lt_of_le hjl HZ3.out.size) (fun e0=>hj.2 e0)]
    exact HZ3.out.block j hjl
   clear hK K ho9 hg9 hbx
   repeat (go_big_quiet_step (fail))
   refine wpQuiet_nil ?_
   intro K hK
   refine alone_want (by kernel_rfl) ?_
   go_big_op
   refine hK _ _ (leave_in fun j hj hjl=>?_) ?_
   ·rw [Below.heap_setCell _ _ _ _ (fun e0=>hj.1 e0),HG9.out.block j (Nat.lt_of_lt_of_le hjl HZ3.out.size) (fun e0=>hj.2 e0)]
    exact HZ3.out.block j hjl
   clear hK K
   refine wpQuiet_nil ?_
   have HTF:Hid (TbAt (w9.setCell ⟨R,0,none⟩ (.slice p9 M.length k9)) B R (.slice p9 M.length k9) M):=Lib.hid (by
    have hg:w9.grownBy (w9.setCell ⟨R,0,none⟩ (.slice p9 M.length k9)) (some R):=⟨rfl,rfl,rfl,by simp [World.setCell],fun k _ hk=>Below.heap_setCell w9 _ _ k (fun e=>hk (by rw [e]))⟩
    refine ⟨Joins.block_setCell (i:=0) HBX.out _,?_,HT3.out.geR⟩
    exact HO9.out.kept hg (own_or (box_apart HBX.out HO9.out (by decide))))
   have HBF:=Lib.hid (HF9.out.setCell (p:=⟨R,0,none⟩) HT3.out.geR (.slice p9 M.length k9))
   clear fz c9
   go_wp2
   go_ret
   exact ⟨by rw [HEE.out];rfl,HBF.out,fun _=>⟨_,HTF.out⟩⟩
end Go.Proofs.YthcpglnmhimepaaGreatDoor.Cs.Ta
end
section
namespace Go.Proofs.YthcpglnmhimepaaGreatDoor.Cs
open Go.RowKit Go.Proofs.YthcpglnmhimepaaGreatDoor.Un Go.Proofs.YthcpglnmhimepaaGreatDoor.Pk
theorem word_le':∀ (ws:List ByteArray) (y:ByteArray),y∈ws→y.size≤(lineL ws).length
 | [],_,h=>by cases h
 | [x],y,h=>by rw [List.mem_singleton.1 h,lineL_one,size_list];exact Nat.le_refl _
 | x::z::r,y,h=>by
   rw [lineL_two,List.length_append,List.length_append,size_list]
   rcases List.mem_cons.1 h with rfl | h
   ·omega
   ·have:=word_le' (z::r) y h
    omega
theorem words_le:∀ ws:List ByteArray,ws.length≤(lineL ws).length+1
 | []=>by simp
 | [x]=>by simp
 | x::z::r=>by
   have:=words_le (z::r)
   rw [lineL_two,List.length_append,List.length_append]
   simp only [List.length_cons,List.length_nil] at this ⊢
   omega
theorem words_in {s:ByteArray} {ws:List ByteArray} (h:ws∈wordsT s):szW ws≤s.size+1:=by
 have h2:=text_size s
 have h3:∀ (l:List (List ByteArray)),ws∈l→szW ws≤szL l:=by
  intro l hl
  induction l with
  | nil=>cases hl
  | cons a r ih =>
    have e:szL (a::r)=szW a+szL r:=by simp [szL]
    rw [e]
    rcases List.mem_cons.1 hl with rfl | hl
    ·omega
    ·have:=ih hl;omega
 have h4:=h3 _ h
 omega
theorem word_size {s:ByteArray} {ws:List ByteArray} (h:ws∈wordsT s):∀ y∈ws,y.size≤s.size+1:=fun y hy=>by
 have h1:=word_le' ws y hy
 have h4:=words_in h
 unfold szW at h4
 omega
theorem words_few {s:ByteArray} {ws:List ByteArray} (h:ws∈wordsT s):ws.length≤s.size+2:=by
 have h1:=words_le ws
 have h4:=words_in h
 unfold szW at h4
 omega
theorem drop_run {M:Mast} {l:List (List ByteArray)} {N:List Crs} {i:Nat} {ws:List ByteArray} (h:l[i]?=some ws):runC M N (l.drop i)=if stepE M N ws=0 then runC M (G.insK Crs.key N (readV ws)) (l.drop (i+1)) else ([],stepE M N ws):=by
 rw [drop_of h]
 by_cases hs:stepE M N ws=0
 ·rw [if_pos hs,runC_cons _ hs]
 ·rw [if_neg hs,runC_stop _ hs]
end Go.Proofs.YthcpglnmhimepaaGreatDoor.Cs
end
section
namespace Go.Proofs.YthcpglnmhimepaaGreatDoor.Cs.Ta
open Go.RowKit Go.Proofs.YthcpglnmhimepaaGreatDoor.Un Go.Proofs.YthcpglnmhimepaaGreatDoor.Pk
structure SlVar (W:World) (g:Nat) (v:Value):Prop where
 lt:g < W.heap.size
 cell:W.cell? ⟨g,0,none⟩=some v
 free:W.frozen? ⟨g,0,none⟩=false
theorem SlVar.keep {W W':World} {g B:Nat} {v:Value} (h:SlVar W g v) (hb:Below B W W') (hB:g < B):SlVar W' g v :=
 ⟨Nat.lt_of_lt_of_le h.lt hb.size,(hb.cell (p:=⟨g,0,none⟩) hB).trans h.cell,by
  have:=h.free
  unfold World.frozen? at this ⊢
  rw [hb.block g hB];exact this⟩
theorem SlVar.mk' (w:World) (v:Value) (t:TypeId):SlVar (w.alloc (.cells #[v] t)) w.heap.size v :=
 ⟨by rw [World.size_alloc];exact Nat.lt_succ_self _,(cell_of_row _ w.heap.size 0 _ t (0,0) (heap_alloc_new w _)).trans rfl,by simp [World.frozen?_alloc_new]⟩
def PTold (w:World) (P:List Crs × Int) (e:Ending) (w':World):Prop:=∃ v,e=.returned (.tuple #[.agg #[v],.int .i64 P.2])∧TabV w' v P.1∧Below w.heap.size w w'
structure PPAt (M:Mast) (W0 wr:World) (B R i:Nat) (l:List (List ByteArray)) (v:Value) (N:List Crs):Prop where
 tab:TbAt wr B R v N
 run:runC M [] l=runC M N (l.drop i)
 few:N.length≤500
 rise:G.riseK Crs.key N=true
 bel:Below B W0 wr
set_option maxRecDepth 100000 in
set_option maxHeartbeats 16000000 in
theorem parse_any (c f e l:Value) (M:Mast) (s:ByteArray) (w:World) (hm:MastIn w c f e l M) (hfr:riseK Fl.Flow.code M.flows=true) (hlf:M.flows.length≤1000) (hs:s.size≤29000) (hLC:LaidC w) :
 Calls Tryz.prog 12 #[aggM c f e l M,.string s] w (PTold w (parseC M s)):=by
 obtain ⟨pc,cc,pf,cf,pe,ce,pl,cl,rfl,rfl,rfl,rfl⟩:=shapes hm
 obtain ⟨W1,hW1⟩:∃ W1,w.alloc (.cells (cellsM (.slice pc M.chart.length cc) (.slice pf M.flows.length cf) (.slice pe M.ents.length ce) (.slice pl M.lines.length cl) M) 30)=W1:=⟨_,rfl⟩
 have hb1:Below w.heap.size w W1:=by rw [←hW1];exact (Below.refl _ w).alloc (Nat.le_refl _) _
 have hn1:NineAt W1 w.heap.size (.slice pc M.chart.length cc) (.slice pf M.flows.length cf) (.slice pe M.ents.length ce) (.slice pl M.lines.length cl) M:=by rw [←hW1];exact nine_new w _ _ _ _ M _
 have hs1:W1.heap.size=w.heap.size+1:=by rw [←hW1,World.size_alloc]
 obtain ⟨W2,hW2⟩:∃ W2,W1.alloc (.cells #[.slice none 0 0] 41)=W2:=⟨_,rfl⟩
 have hb12:Below W1.heap.size W1 W2:=by rw [←hW2];exact (Below.refl _ W1).alloc (Nat.le_refl _) _
 have hv2:SlVar W2 (w.heap.size+1) (.slice none 0 0):=by rw [←hW2,←hs1];exact SlVar.mk' W1 _ _
 have hb2:=hb1.trans (hb12.mono hb1.size)
 have HB2:=Lib.hid hb2
 have HN2:=Lib.hid (hn1.kept hb12)
 have HV2:=Lib.hid hv2
 have HM2:=Lib.hid (hm.keep hb2)
 have HC2:=Lib.hid (hLC.below hb2)
 have HS1:=Lib.hid hs1
 have HLN:=Lib.hid (lines_any s W2 (by omega))
 have HWS:=Lib.hid (fun ws (h:ws∈wordsT s)=>word_size h)
 have HWL:=Lib.hid (fun ws (h:ws∈wordsT s)=>words_few h)
 have HWR:=Lib.hid (fun ws (h:ws∈wordsT s)=>text_right s ws h)
 have HRD:=Lib.hid (fun u ws W hM hV h0 hl hz hC=>read_any (.slice pc M.chart.length cc) (.slice pf M.flows.length cf) (.slice pe M.ents.length ce) (.slice pl M.lines.length cl) M u ws W hM hfr hlf hV h0 hl hz hC)
 have hpm:parseC M s=if linE s.data.toList=0 then runC M [] (wordsT s) else ([],linE s.data.toList):=rfl
 obtain ⟨L,hL⟩:∃ L,asB (linV s.data.toList)=L:=⟨_,rfl⟩
 have hWT:wordsT s=L.map (·.2):=by unfold wordsT;rw [hL]
 rw [hWT] at hpm HWS HWL HWR
 have hLL:L.length≤30001:=by
  rw [←hL,asB_length]
  unfold linV
  split
  ·simp
  ·split
   ·unfold linesL
    have h1:=numP_length (enumL 1 (linesGo [] s.data.toList))
    rw [enumL_length] at h1
    have h2:=linesGo_length [] s.data.toList
    rw [size_list] at h2
    omega
   ·simp
 obtain ⟨e0,he0⟩:∃ e0,linE s.data.toList=e0:=⟨_,rfl⟩
 rw [he0] at hpm HLN
 rw [hL] at HLN
 obtain ⟨P,hP⟩:∃ P,parseC M s=P:=⟨_,rfl⟩
 rw [hP]
 have HPR:Hid (P=if e0=0 then runC M [] (L.map (·.2)) else ([],e0)):=Lib.hid (by rw [←hpm,hP])
 have HS:=Lib.hid hs
 clear hpm hL hWT he0 hP hm hs hfr hlf hLC hb1 hn1 hs1 hb12 hv2 hb2
 go_enter Tryz.func12,Tryz.ntmps12
 go_wp2_with fail
 clear hW1 hW2
 refine HLN.out.mono ?_
 rintro en w3 ⟨v3,rfl,hlv,hb3⟩
 have HB3:=Lib.hid (HB2.out.trans (hb3.mono HB2.out.size))
 have HN3:=Lib.hid (HN2.out.kept hb3)
 have HM3:=Lib.hid (HM2.out.keep hb3)
 have HV3:=Lib.hid (HV2.out.keep hb3 HV2.out.lt)
 have HC3:=Lib.hid (HC2.out.below hb3)
 rw [HS1.out]
 clear hb3 HB2 HN2 HM2 HV2 HC2 HLN
 obtain ⟨p,cp,rfl,hmx,hc⟩:=hlv
 have HC:=Lib.hid hc
 clear hc
 by_cases h0:e0=0
 rotate_left
 ·have HPF:Hid (P=([],e0)):=Lib.hid (by rw [HPR.out,if_neg h0])
  have h0':(e0 != 0)=true:=by simp [h0]
  obtain ⟨_,c0,f0⟩:=HV3.out
  clear h0
  go_wp2
  exact bodyPost_ret (v:=.tuple #[.agg #[.slice none 0 0],.int .i64 e0]) (by simp [results,Tryz.results12,go_sem,c0]) rfl ⟨_,by rw [HPF.out],by rw [HPF.out];exact ElsV.nil _,HB3.out.setCell (p:=⟨w.heap.size+1,0,none⟩) (Nat.le_succ _) _⟩
 subst h0
 have HPR2:Hid (P=runC M [] (L.map (·.2))):=Lib.hid (by rw [HPR.out,if_pos rfl])
 clear HPR
 obtain ⟨n,hn⟩:∃ n,L.length=n:=⟨_,rfl⟩
 rw [hn] at hLL ⊢
 have HN:=Lib.hid hn
 clear hn hmx
 have hb4:=(Below.refl w3.heap.size w3).alloc (Nat.le_refl _) (.cells #[.slice none 0 0] 41)
 have ht4:=TbAt.new w3
 obtain ⟨W4,hW4⟩:∃ W4,w3.alloc (.cells #[.slice none 0 0] 41)=W4:=⟨_,rfl⟩
 rw [hW4] at hb4 ht4
 obtain ⟨R,hR⟩:∃ R,w3.heap.size=R:=⟨_,rfl⟩
 rw [hR] at hb4 ht4
 have HRR:=Lib.hid hR
 have HB4:=Lib.hid hb4
 have HST:Hid (∃ v N,PPAt M w3 W4 R R 0 (L.map (·.2)) v N):=Lib.hid ⟨_,[],ht4,rfl,by simp,rfl,hb4⟩
 clear hb4 ht4
 go_wp2
 clear hW4 hR
 go_loopw [25] (fun s25 wr=>∃ i:Nat,i≤n∧s25=.int .i64 (i:Int)∧Hid (∃ v N,PPAt M w3 wr R R i (L.map (·.2)) v N)) (fun s25 _=>n - (intOf s25).toNat)
 case atStart=>exact ⟨0,Nat.zero_le _,rfl,HST⟩
 case round =>
  obtain ⟨i,hi,rfl,HPA⟩:=hrel
  obtain ⟨vt,N,hpa⟩:=HPA.out
  have HP:=Lib.hid hpa
  clear hpa HPA HST
  have HSR:Hid (w3.heap.size=R):=HRR
  have HBR:Hid (Below w3.heap.size w3 wr):=Lib.hid (by rw [HSR.out];exact HP.out.bel)
  have HBA:=Lib.hid (HB3.out.trans (HBR.out.mono HB3.out.size))
  by_cases hlt:i < n
  ·obtain ⟨⟨ln,ws⟩,hx⟩:∃ x,L[i]?=some x:=⟨_,List.getElem?_eq_getElem (by rw [HN.out];exact hlt)⟩
   obtain ⟨b,o,u,rfl,d0,d1,hu⟩:=HC.out i _ hx
   dsimp only at d0 d1 hu
   have hwx:(L.map (·.2))[i]?=some ws:=by rw [List.getElem?_map,hx];rfl
   have hmem:=List.mem_of_getElem? hwx
   have HWX:=Lib.hid hwx
   have hwz:∀ y∈ws,y.size≤700000:=fun y hy=>by have:=HWS.out ws hmem y hy;have:=HS.out;omega
   have hwl:ws.length≤30000:=by have:=HWL.out ws hmem;have:=HS.out;omega
   have hw0:ws≠[]:=fun e=>by have:=(HWR.out ws hmem).1;rw [e] at this;exact absurd rfl this
   obtain ⟨pu,cu,rfl,_,_,_⟩:=id hu
   have e0':=(HBR.out.cell (World.block_lt_of_cell? w3 _ d0)).trans d0
   have e1:=(HBR.out.cell (World.block_lt_of_cell? w3 _ d1)).trans d1
   have hb5:=(Below.refl wr.heap.size wr).alloc (Nat.le_refl _) (.cells #[.int .i64 ln,.slice pu ws.length cu] 81)
   have hl5:(wr.alloc (.cells #[.int .i64 ln,.slice pu ws.length cu] 81)).cell? ⟨wr.heap.size,1,none⟩=some (.slice pu ws.length cu):=(cell_of_row _ wr.heap.size 1 _ _ (0,0) (heap_alloc_new wr _)).trans rfl
   obtain ⟨W5,hW5⟩:∃ W5,wr.alloc (.cells #[.int .i64 ln,.slice pu ws.length cu] 81)=W5:=⟨_,rfl⟩
   rw [hW5] at hb5 hl5
   have HB5:=Lib.hid (HBR.out.trans (hb5.mono HBR.out.size))
   have HRDX:=Lib.hid (HRD.out _ ws W5 (HM3.out.keep HB5.out) (hu.keep HB5.out) hw0 hwl hwz (HC3.out.below HB5.out))
   have HT5:=Lib.hid (HP.out.tab.below hb5)
   obtain ⟨nw,hnw⟩:∃ nw,ws.length=nw:=⟨_,rfl⟩
   rw [hnw] at e1 hl5 hW5 HRDX
   obtain ⟨E,hE⟩:∃ E,lineE M ws=E:=⟨_,rfl⟩
   rw [hE] at HRDX
   have HEE:=Lib.hid hE
   obtain ⟨k0,k1,k2,k3,k4,k5,k6,k7,k8⟩:=HN3.out.kept HB5.out
   clear hE hx hwx hmem hwz hwl hw0 d0 d1 hu hnw hb5
   go_wp2_with fail
   clear e0' e1 hW5 hl5 k0 k1 k2 k3 k4 k5 k6 k7 k8
   refine HRDX.out.mono ?_
   rintro en w6 ⟨y,rfl,hy,hb6⟩
   have HXE:=Lib.hid hy
   have hb7:=(hb6.alloc hb6.size (.cells (encX.cs y).toArray 85))
   have hx7:=BoxE.new encX w6 y 85
   obtain ⟨W7,hW7⟩:∃ W7,w6.alloc (.cells #[.string y.sort,.string y.flw,.string y.cur,.int .i64 y.num,.int .i64 y.den] 85)=W7:=⟨_,rfl⟩
   replace hb7:Below W5.heap.size W5 W7:=by rw [←hW7];exact hb7
   replace hx7:BoxE encX W7 w6.heap.size 85 y:=by rw [←hW7];exact hx7
   have HB7:=Lib.hid (HB5.out.trans (hb7.mono HB5.out.size))
   have HBF7:=Lib.hid (HB3.out.trans (HB7.out.mono HB3.out.size))
   have HT7:=Lib.hid (HT5.out.below hb7)
   have HX7:=Lib.hid hx7
   have HV7:=Lib.hid (HV3.out.keep HB7.out HV3.out.lt)
   clear hy hb6 hb7 hx7 HRDX HB5 HT5
   by_cases hE0:E=0
   rotate_left
   ·have h1:(E != 0)=true:=by simp [hE0]
    have HPF:Hid (P=([],E)):=Lib.hid (by
     have hs:stepE M N ws=E:=by rw [step_line,HEE.out,if_neg hE0]
     rw [HPR2.out,HP.out.run,drop_run HWX.out,if_neg (by rw [hs];exact hE0),hs])
    obtain ⟨_,c0,f0⟩:=HV7.out
    clear hE0
    go_wp2
    exact bodyPost_ret (v:=.tuple #[.agg #[.slice none 0 0],.int .i64 E]) (by simp [results,Tryz.results12,go_sem,c0]) rfl ⟨_,by rw [HPF.out],by rw [HPF.out];exact ElsV.nil _,HBF7.out.setCell (p:=⟨w.heap.size+1,0,none⟩) (Nat.le_succ _) _⟩
   subst hE0
   have HYV:Hid (readV ws=y):=Lib.hid (HXE.out rfl)
   clear HXE
   have HPU:=Lib.hid (put_any vt N y R R W7 HT7.out HP.out.rise HP.out.few)
   have HST0:Hid (stepE M N ws=tabE N y):=Lib.hid (by rw [step_line,HEE.out,if_pos rfl,HYV.out])
   obtain ⟨T,hT⟩:∃ T,tabE N y=T:=⟨_,rfl⟩
   rw [hT] at HPU HST0
   obtain ⟨N2,hN2⟩:∃ N2,G.insK Crs.key N y=N2:=⟨_,rfl⟩
   rw [hN2] at HPU
   have HN2:=Lib.hid hN2
   have HTT:=Lib.hid hT
   clear hT hN2
   obtain ⟨x0,x1,x2,x3,x4⟩:=crs5 HX7.out.at0
   simp only [Nat.zero_add] at x0 x1 x2 x3 x4
   go_wp2_with fail
   clear x0 x1 x2 x3 x4 hW7
   refine HPU.out.mono ?_
   rintro en w8 ⟨rfl,hb8,hnx⟩
   have HNX:=Lib.hid hnx
   have HB8:Hid (Below R w3 w8):=Lib.hid ((by have:=HB7.out;rw [HSR.out] at this;exact this:Below R w3 W7).trans hb8)
   have HB83:Hid (Below w3.heap.size w3 w8):=Lib.hid (by rw [HSR.out];exact HB8.out)
   have HBF8:=Lib.hid (HB3.out.trans (HB83.out.mono HB3.out.size))
   have HV8:=Lib.hid (HV3.out.keep HB83.out HV3.out.lt)
   clear hb8 hnx HB7 HBF7 HT7 HX7 HV7 HPU
   by_cases hT0:T=0
   rotate_left
   ·have h1:(T != 0)=true:=by simp [hT0]
    have HPF:Hid (P=([],T)):=Lib.hid (by
     rw [HPR2.out,HP.out.run,drop_run HWX.out,HST0.out,if_neg hT0])
    obtain ⟨_,c0,f0⟩:=HV8.out
    clear hT0
    go_wp2
    exact bodyPost_ret (v:=.tuple #[.agg #[.slice none 0 0],.int .i64 T]) (by simp [results,Tryz.results12,go_sem,c0]) rfl ⟨_,by rw [HPF.out],by rw [HPF.out];exact ElsV.nil _,HBF8.out.setCell (p:=⟨w.heap.size+1,0,none⟩) (Nat.le_succ _) _⟩
   subst hT0
   have HNXT:Hid (∃ v N,PPAt M w3 w8 R R (i+1) (L.map (·.2)) v N):=Lib.hid (by
    obtain ⟨v',ht⟩:=HNX.out rfl
    have h0:=tabE_zero.1 HTT.out
    refine ⟨v',N2,ht,?_,?_,?_,HB8.out⟩
    ·rw [HP.out.run,drop_run HWX.out,HST0.out,if_pos rfl,HYV.out,HN2.out]
    ·rw [←HN2.out,G.insK_length];omega
    ·rw [←HN2.out];exact G.riseK_ins _ _ HP.out.rise h0.1)
   go_wp2
   go_roundw
   case rel=>exact ⟨i+1,by omega,by go_num,HNXT⟩
   case measure=>simp [intOf];omega
  ·obtain rfl:i=n:=by omega
   have HPF:Hid (P=(N,0)):=Lib.hid (by
    rw [HPR2.out,HP.out.run,List.drop_of_length_le (by rw [List.length_map,HN.out];exact Nat.le_refl _)]
    rfl)
   have t0:=HP.out.tab.cell
   obtain ⟨_,c0,f0⟩:=HV3.out.keep HBR.out HV3.out.lt
   obtain ⟨pt,ct,rfl,_⟩:=els_of_own HP.out.tab.row
   have HTF:Hid (TabV (wr.setCell ⟨w.heap.size+1,0,none⟩ (.slice pt N.length ct)) (.slice pt N.length ct) N):=Lib.hid (by
    have hg:wr.grownBy (wr.setCell ⟨w.heap.size+1,0,none⟩ (.slice pt N.length ct)) (some (w.heap.size+1)):=⟨rfl,rfl,rfl,by simp [World.setCell],fun k _ hk=>Below.heap_setCell wr _ _ k (fun e=>hk (by rw [e]))⟩
    refine els_of_own (HP.out.tab.row.kept hg (.inr fun e=>?_))
    have h1:=(HP.out.tab.row.lt _ e).1
    have h2:=HV3.out.lt
    rw [HSR.out] at h2
    omega)
   obtain ⟨nt,hnt⟩:∃ nt,N.length=nt:=⟨_,rfl⟩
   rw [hnt] at t0 HTF
   clear hnt
   go_wp2
   exact bodyPost_ret (v:=.tuple #[.agg #[.slice pt nt ct],.int .i64 0]) (by simp [results,Tryz.results12,go_sem,c0]) rfl ⟨_,by rw [HPF.out],by rw [HPF.out];exact HTF.out,HBA.out.setCell (p:=⟨w.heap.size+1,0,none⟩) (Nat.le_succ _) _⟩
end Go.Proofs.YthcpglnmhimepaaGreatDoor.Cs.Ta
end
section
namespace Go.Proofs.YthcpglnmhimepaaGreatDoor.Cs.Ta
open Go.RowKit Go.Proofs.YthcpglnmhimepaaGreatDoor.Un Go.Proofs.YthcpglnmhimepaaGreatDoor.Pk
def keysL (K:Int) (f c:ByteArray):List Key3:=if K=0 then [(tPrior,emp,c)] else if K=4 then [(tClose,emp,c)] else [(tFlow,f,c),(tAverage,emp,c)]
def firstL (L:List Crs):List Key3→Option (Int × Int)
 | []=>none
 | k::r=>match rateO L k with
   | some x=>some x
   | none=>firstL L r
theorem first_at {L:List Crs} {x:Int × Int}:∀ {KS:List Key3} {i:Nat} {k:Key3},(∀ (j:Nat) (y:Key3),j < i→KS[j]?=some y→rateO L y=none)→KS[i]?=some k→rateO L k=some x→firstL L KS=some x
 | [],_,_,_,h,_=>by simp at h
 | y::r,0,k,_,h,hx=>by
   simp at h
   subst h
   unfold firstL
   rw [hx]
 | y::r,i+1,k,hb,h,hx=>by
   unfold firstL
   rw [hb 0 y (Nat.succ_pos _) rfl]
   exact first_at (i:=i) (fun j z hj hz=>hb (j+1) z (Nat.succ_lt_succ hj) (by simpa using hz)) (by simpa using h) hx
theorem first_none {L:List Crs}:∀ {KS:List Key3},(∀ (j:Nat) (y:Key3),KS[j]?=some y→rateO L y=none)→firstL L KS=none
 | [],_=>rfl
 | y::r,h=>by
   unfold firstL
   rw [h 0 y rfl]
   exact first_none fun j z hz=>h (j+1) z (by simpa using hz)
theorem of_first {M:Mast} {L:List Crs} {c f:ByteArray} (h1:hasFl M f=true) (h2:kindF M f≠2) (h3:c≠M.cur) (hk:0≤kindF M f∧kindF M f < 5) (hno:kindF M f≠1→kindF M f≠3→rateO L (tFlow,f,c)=none) :
 ofC M L c f=match firstL L (keysL (kindF M f) f c) with
  | some r=>(r,0)
  | none=>((0,0),10):=by
 unfold ofC
 rw [h1,if_neg (by simp),if_neg h2,if_neg h3]
 generalize kindF M f=K at *
 unfold keysL
 by_cases k0:K=0
 ·subst k0
  rw [hno (by decide) (by decide),if_pos rfl]
  unfold firstL firstL
  rw [show sortK 0=tPrior from rfl]
  cases rateO L (tPrior,emp,c) <;> rfl
 ·rw [if_neg k0]
  by_cases k4:K=4
  ·subst k4
   rw [hno (by decide) (by decide),if_pos rfl]
   unfold firstL firstL
   rw [show sortK 4=tClose from rfl]
   cases rateO L (tClose,emp,c) <;> rfl
  ·rw [if_neg k4]
   unfold firstL firstL firstL
   have hs:sortK K=tAverage:=by unfold sortK;rw [if_neg k0,if_neg k4]
   rw [hs]
   cases rateO L (tFlow,f,c) with
   | some r=>rfl
   | none=>cases rateO L (tAverage,emp,c) <;> rfl
def KeysTold (w:World) (KS:List Key3) (e:Ending) (w':World):Prop:=∃ b,e=.returned (.slice (some ⟨b,0,none⟩) KS.length KS.length)∧(∀ (i:Nat) k,KS[i]?=some k→ElAt encT w' b (i * 3) k)∧Below w.heap.size w w'
theorem keys_new (w:World) (KS:List Key3) (t:TypeId) (i:Nat) (k:Key3) (h:KS[i]?=some k):ElAt encT (w.alloc (.cells (flat encT KS).toArray t)) w.heap.size (i * 3) k:=fun j v hj=>by
 rw [cell_of_row _ w.heap.size _ _ t (0,0) (heap_alloc_new w _)]
 have e:=flat_at KS i k h j v hj
 simp only [show encT.k=3 from rfl] at e
 simpa using e
set_option maxRecDepth 100000 in
set_option maxHeartbeats 4000000 in
theorem keysOf_any (K:Int) (f c:ByteArray) (w:World):Calls Tryz.prog 34 #[.int .i64 K,.string f,.string c] w (KeysTold w (keysL K f c)):=by
 by_cases h0:K=0
 ·have hk:keysL K f c=[(tPrior,emp,c)]:=if_pos h0
  have HE:Hid (∀ (i:Nat) k,[((tPrior,emp,c):Key3)][i]?=some k→ElAt encT (w.alloc (.cells #[.string ⟨#[112,114,105,111,114]⟩,.string ⟨#[]⟩,.string c] 83)) w.heap.size (i * 3) k):=Lib.hid (keys_new w [(tPrior,emp,c)] 83)
  have HB:=Lib.hid ((Below.refl w.heap.size w).alloc (Nat.le_refl _) (.cells #[.string ⟨#[112,114,105,111,114]⟩,.string ⟨#[]⟩,.string c] 83))
  rw [hk]
  clear hk
  subst h0
  go_enter Tryz.func34,Tryz.ntmps34
  go_wp2
  go_ret
  exact ⟨_,rfl,HE.out,HB.out⟩
 ·by_cases h4:K=4
  ·have hk:keysL K f c=[(tClose,emp,c)]:=by unfold keysL;rw [if_neg h0,if_pos h4]
   have HE:Hid (∀ (i:Nat) k,[((tClose,emp,c):Key3)][i]?=some k→ElAt encT (w.alloc (.cells #[.string ⟨#[99,108,111,115,101]⟩,.string ⟨#[]⟩,.string c] 83)) w.heap.size (i * 3) k):=Lib.hid (keys_new w [(tClose,emp,c)] 83)
   have HB:=Lib.hid ((Below.refl w.heap.size w).alloc (Nat.le_refl _) (.cells #[.string ⟨#[99,108,111,115,101]⟩,.string ⟨#[]⟩,.string c] 83))
   rw [hk]
   clear hk h0
   subst h4
   go_enter Tryz.func34,Tryz.ntmps34
   go_wp2
   go_ret
   exact ⟨_,rfl,HE.out,HB.out⟩
  ·have hk:keysL K f c=[(tFlow,f,c),(tAverage,emp,c)]:=by unfold keysL;rw [if_neg h0,if_neg h4]
   have HE:Hid (∀ (i:Nat) k,[((tFlow,f,c):Key3),(tAverage,emp,c)][i]?=some k→ElAt encT (w.alloc (.cells #[.string ⟨#[102,108,111,119]⟩,.string f,.string c,.string ⟨#[97,118,101,114,97,103,101]⟩,.string ⟨#[]⟩,.string c] 83)) w.heap.size (i * 3) k):=Lib.hid (keys_new w [(tFlow,f,c),(tAverage,emp,c)] 83)
   have HB:=Lib.hid ((Below.refl w.heap.size w).alloc (Nat.le_refl _) (.cells #[.string ⟨#[102,108,111,119]⟩,.string f,.string c,.string ⟨#[97,118,101,114,97,103,101]⟩,.string ⟨#[]⟩,.string c] 83))
   rw [hk]
   clear hk
   have q0:(K==0)=false:=by simpa using h0
   have q4:(K==4)=false:=by simpa using h4
   clear h0 h4
   go_enter Tryz.func34,Tryz.ntmps34
   go_wp2
   go_ret
   exact ⟨_,rfl,HE.out,HB.out⟩
set_option maxRecDepth 100000 in
set_option maxHeartbeats 16000000 in
theorem of_any (cv fv e l vl:Value) (M:Mast) (L:List Crs) (c f:ByteArray) (w:World) (hM:MastIn w cv fv e l M) (hr:riseK Fl.Flow.code M.flows=true) (hlf:M.flows.length≤1000) (hV:TabV w vl L) (hri:G.riseK Crs.key L=true) (hL:L.length≤1000) (hk:hasFl M f=true→0≤kindF M f∧kindF M f < 5) (hno:kindF M f≠1→kindF M f≠3→rateO L (tFlow,f,c)=none) :
 Calls Tryz.prog 16 #[aggM cv fv e l M,aggTab vl,.string c,.string f] w fun en w'=>en=.returned (.tuple #[.agg #[.int .i64 (ofC M L c f).1.1,.int .i64 (ofC M L c f).1.2],.int .i64 (ofC M L c f).2])∧Below w.heap.size w w':=by
 obtain ⟨pc,cc,pf,cf,pe,ce,pl,cl,rfl,rfl,rfl,rfl⟩:=shapes hM
 obtain ⟨pv,kv,rfl,hcap,hmx,_,hcl⟩:=id hV
 obtain ⟨W1,hW1⟩:∃ W1,w.alloc (.cells (cellsM (.slice pc M.chart.length cc) (.slice pf M.flows.length cf) (.slice pe M.ents.length ce) (.slice pl M.lines.length cl) M) 30)=W1:=⟨_,rfl⟩
 have hb1:Below w.heap.size w W1:=by rw [←hW1];exact (Below.refl _ w).alloc (Nat.le_refl _) _
 have hn1:NineAt W1 w.heap.size (.slice pc M.chart.length cc) (.slice pf M.flows.length cf) (.slice pe M.ents.length ce) (.slice pl M.lines.length cl) M:=by rw [←hW1];exact nine_new w _ _ _ _ M _
 have hs1:W1.heap.size=w.heap.size+1:=by rw [←hW1,World.size_alloc]
 obtain ⟨W2,hW2⟩:∃ W2,W1.alloc (.cells #[.slice pv L.length kv] 41)=W2:=⟨_,rfl⟩
 have hb12:Below W1.heap.size W1 W2:=by rw [←hW2];exact (Below.refl _ W1).alloc (Nat.le_refl _) _
 have hs2:W2.heap.size=w.heap.size+2:=by rw [←hW2,World.size_alloc,hs1]
 have ht2:W2.cell? ⟨w.heap.size+1,0,none⟩=some (.slice pv L.length kv):=by rw [←hW2,←hs1];exact (cell_of_row _ W1.heap.size 0 _ _ (0,0) (heap_alloc_new W1 _)).trans rfl
 obtain ⟨W3,hW3⟩:∃ W3,W2.alloc (.cells #[.int .i64 0,.int .i64 0] 53)=W3:=⟨_,rfl⟩
 have hb23:Below W2.heap.size W2 W3:=by rw [←hW3];exact (Below.refl _ W2).alloc (Nat.le_refl _) _
 have hw3:Ra.RateVar W3 (w.heap.size+2) 0 0:=by rw [←hW3,←hs2];exact Ra.RateVar.mk W2 0 0 _
 have hb13:=hb12.trans (hb23.mono hb12.size)
 have hb3:=hb1.trans (hb13.mono hb1.size)
 have HB3:=Lib.hid hb3
 have HN3:=Lib.hid (hn1.kept hb13)
 have HT3:=Lib.hid ((hb23.cell (World.block_lt_of_cell? _ _ ht2)).trans ht2)
 have HW3:=Lib.hid hw3
 have HM3:=Lib.hid (hM.keep hb3)
 have HV3:=Lib.hid (hV.keep hb3)
 have HS1:=Lib.hid hs1
 have HS2:=Lib.hid hs2
 obtain ⟨O,hO⟩:∃ O,ofC M L c f=O:=⟨_,rfl⟩
 have HOO:=Lib.hid hO
 rw [hO]
 have hki:=fun W h=>kindOf_any (.slice pc M.chart.length cc) (.slice pf M.flows.length cf) (.slice pe M.ents.length ce) (.slice pl M.lines.length cl) M f W h hr hlf
 have hpl:=fun k W (h:TabV W (.slice pv L.length kv) L)=>place_any (.slice pv L.length kv) L k W h hri hL
 have HPL:=Lib.hid hpl
 have HIS:=Lib.hid (fun k=>G.isK_find hri k)
 have HOF:=Lib.hid (fun h1 h2 h3=>of_first (M:=M) (L:=L) (c:=c) (f:=f) h1 h2 h3 (hk h1) hno)
 obtain ⟨K,hK⟩:∃ K,kindF M f=K:=⟨_,rfl⟩
 obtain ⟨I,hI⟩:∃ I,hasFl M f=I:=⟨_,rfl⟩
 simp only [hK,hI] at hki
 have HKI:=Lib.hid hki
 have HKK:=Lib.hid hK
 have HII:=Lib.hid hI
 obtain ⟨n,hn⟩:∃ n,L.length=n:=⟨_,rfl⟩
 rw [hn] at HV3 HT3 HPL hcap hL hW2
 rw [hn]
 have HN:=Lib.hid hn
 unfold maxLen at hmx
 clear hM hV hb1 hn1 hs1 hb12 hs2 ht2 hb23 hw3 hb13 hb3 hO hki hpl hK hI hk hno hri hr hlf hcl hn
 obtain ⟨k0,k1,k2,k3,k4,k5,k6,k7,k8⟩:=HN3.out
 go_enter Tryz.func16,Tryz.ntmps16
 go_wp2_with fail
 clear k0 k1 k2 k3 k4 k5 k6 k7 k8 hW1 hW2 hW3
 refine (HKI.out _ HM3.out).mono ?_
 rintro en w4 ⟨rfl,hb4⟩
 have HB4:=Lib.hid (HB3.out.trans (hb4.mono HB3.out.size))
 have HN4:=Lib.hid (HN3.out.kept hb4)
 have HT4:=Lib.hid ((hb4.cell (World.block_lt_of_cell? _ _ HT3.out)).trans HT3.out)
 have HV4:=Lib.hid (HV3.out.keep hb4)
 have HW4:=Lib.hid (HW3.out.keep hb4 (Nat.le_refl _))
 rw [HS1.out,HS2.out]
 clear hb4 HB3 HN3 HT3 HV3 HM3 HKI HW3
 obtain ⟨k0,k1,k2,k3,k4,k5,k6,k7,k8⟩:=HN4.out
 cases I with
 | false =>
   have HO:Hid (O=((0,0),6)):=Lib.hid (by rw [←HOO.out];unfold ofC;rw [HII.out];rfl)
   obtain ⟨⟨c0,c1⟩,f0,f1⟩:=HW4.out
   go_wp2
   exact bodyPost_ret (v:=.tuple #[.agg #[.int .i64 0,.int .i64 0],.int .i64 6]) (by simp [results,Tryz.results16,go_sem,c0,c1]) rfl ⟨by rw [HO.out],(HB4.out.setCell (p:=⟨w.heap.size+2,0,none⟩) (Nat.le_add_right _ _) _).setCell (p:=⟨w.heap.size+2,1,none⟩) (Nat.le_add_right _ _) _⟩
 | true =>
 by_cases hk2:K=2
 ·have HO:Hid (O=((0,0),8)):=Lib.hid (by rw [←HOO.out];unfold ofC;rw [HII.out,HKK.out,if_neg (by simp),if_pos hk2])
  obtain ⟨⟨c0,c1⟩,f0,f1⟩:=HW4.out
  subst hk2
  go_wp2
  exact bodyPost_ret (v:=.tuple #[.agg #[.int .i64 0,.int .i64 0],.int .i64 8]) (by simp [results,Tryz.results16,go_sem,c0,c1]) rfl ⟨by rw [HO.out],(HB4.out.setCell (p:=⟨w.heap.size+2,0,none⟩) (Nat.le_add_right _ _) _).setCell (p:=⟨w.heap.size+2,1,none⟩) (Nat.le_add_right _ _) _⟩
 have hk21:(K==2)=false:=by simpa using hk2
 cases hc:(c.toList==M.cur.toList) with
 | true =>
   have HO:Hid (O=((1,1),0)):=Lib.hid (by rw [←HOO.out];unfold ofC;rw [HII.out,HKK.out,if_neg (by simp),if_neg hk2,if_pos ((Lib.bytes_beq_iff c M.cur).1 hc)])
   obtain ⟨⟨c0,c1⟩,f0,f1⟩:=HW4.out
   clear hk2
   go_wp2
   exact bodyPost_ret (v:=.tuple #[.agg #[.int .i64 1,.int .i64 1],.int .i64 0]) (by simp [results,Tryz.results16,go_sem,c0,c1]) rfl ⟨by rw [HO.out],(HB4.out.setCell (p:=⟨w.heap.size+2,0,none⟩) (Nat.le_add_right _ _) _).setCell (p:=⟨w.heap.size+2,1,none⟩) (Nat.le_add_right _ _) _⟩
 | false =>
 have hof:=HOF.out HII.out (by rw [HKK.out];exact hk2) ((Lib.bytes_beq_false_iff c M.cur).1 hc)
 rw [HOO.out,HKK.out] at hof
 have HKO:=Lib.hid (keysOf_any K f c w4)
 obtain ⟨KS,hKS⟩:∃ KS,keysL K f c=KS:=⟨_,rfl⟩
 have hm2:KS.length≤2:=by rw [←hKS];unfold keysL;(repeat' split) <;> simp
 rw [hKS] at hof HKO
 have HO:=Lib.hid hof
 obtain ⟨m,hm⟩:∃ m,KS.length=m:=⟨_,rfl⟩
 have HMM:=Lib.hid hm
 rw [hm] at hm2
 clear hof hKS hk2 HOF HOO HKK HII hm
 go_wp2_with fail
 clear k0 k1 k2 k3 k4 k5 k6 k7 k8 hc hk21
 refine HKO.out.mono ?_
 rintro en w5 ⟨b5,rfl,hel,hb5⟩
 have HB5:=Lib.hid (HB4.out.trans (hb5.mono HB4.out.size))
 have HT5:=Lib.hid ((hb5.cell (World.block_lt_of_cell? _ _ HT4.out)).trans HT4.out)
 have HV5:=Lib.hid (HV4.out.keep hb5)
 have HW5:=Lib.hid (HW4.out.keep hb5 (Nat.le_refl _))
 have HEL:=Lib.hid hel
 rw [HMM.out]
 clear hb5 hel HB4 HN4 HT4 HV4 HW4 HKO
 go_wp2
 go_loopw [41] (fun s41 wr=>∃ i:Nat,s41=.int .i64 (i:Int)∧i≤m∧Hid (∀ (j:Nat) (y:Key3),j < i→KS[j]?=some y→rateO L y=none)∧Hid (Below w5.heap.size w5 wr)) (fun s41 _=>m - (intOf s41).toNat)
 case atStart=>exact ⟨0,rfl,Nat.zero_le _,Lib.hid (fun j y h=>absurd h (Nat.not_lt_zero _)),Lib.hid (Below.refl _ _)⟩
 case round =>
  obtain ⟨i,rfl,hi,HNO,HBW⟩:=hrel
  have HBA:=Lib.hid (HB5.out.trans (HBW.out.mono HB5.out.size))
  by_cases hlt:i < m
  ·obtain ⟨k,hk⟩:∃ k,KS[i]?=some k:=⟨_,List.getElem?_eq_getElem (by rw [HMM.out];exact hlt)⟩
   have hat:=HEL.out i k hk
   obtain ⟨d0,d1,d2⟩:=key3 (hat.keep HBW.out hat.lt)
   have HK:=Lib.hid hk
   have hb6:=(Below.refl wr.heap.size wr).alloc (Nat.le_refl _) (.cells (encT.cs k).toArray 83)
   have hk6:=BoxE.new encT wr k 83
   obtain ⟨W6,hW6⟩:∃ W6,wr.alloc (.cells #[.string k.1,.string k.2.1,.string k.2.2] 83)=W6:=⟨_,rfl⟩
   replace hb6:Below wr.heap.size wr W6:=by rw [←hW6];exact hb6
   replace hk6:BoxE encT W6 wr.heap.size 83 k:=by rw [←hW6];exact hk6
   have hb56:=HBW.out.trans (hb6.mono HBW.out.size)
   have HB56:=Lib.hid hb56
   have HV6:=Lib.hid (HV5.out.keep hb56)
   have HT6:=Lib.hid ((hb56.cell (World.block_lt_of_cell? _ _ HT5.out)).trans HT5.out)
   obtain ⟨y0,y1,y2⟩:=key3 hk6.at0
   simp only [Nat.zero_add] at y0 y1 y2
   have t0:=HT6.out
   have HPP:=Lib.hid (HPL.out k W6 HV6.out)
   have HII:=Lib.hid (HIS.out k)
   have HPI:Hid (G.isK Crs.key L k=true→∃ x,L[G.placeK Crs.key L k]?=some x∧rateO L k=some (x.num,x.den)):=Lib.hid (fun h=>by
    obtain ⟨h1,h2⟩:=HII.out
    rw [h] at h1
    cases hf:G.findK Crs.key L k with
    | none=>rw [hf] at h1;cases h1
    | some x=>exact ⟨x,by rw [h2 h,hf],by unfold rateO;rw [hf];rfl⟩)
   have HPN:Hid (G.isK Crs.key L k=false→rateO L k=none):=Lib.hid (fun h=>by
    obtain ⟨h1,_⟩:=HII.out
    rw [h] at h1
    unfold rateO
    cases hf:G.findK Crs.key L k with
    | none=>rfl
    | some x=>rw [hf] at h1;cases h1)
   obtain ⟨pk,hpk⟩:∃ pk,G.placeK Crs.key L k=pk:=⟨_,rfl⟩
   obtain ⟨is,his⟩:∃ is,G.isK Crs.key L k=is:=⟨_,rfl⟩
   rw [hpk,his] at HPP HPI
   rw [his] at HPN
   clear hk hat hb6 hk6 hb56 HII hpk his
   go_wp2_with fail
   clear hW6 d0 d1 d2 y0 y1 y2 t0
   refine HPP.out.mono ?_
   rintro en w7 ⟨rfl,hb7⟩
   have HB7:=Lib.hid (HB56.out.trans (hb7.mono HB56.out.size))
   have HV7:=Lib.hid (HV6.out.keep hb7)
   have HT7:=Lib.hid ((hb7.cell (World.block_lt_of_cell? _ _ HT6.out)).trans HT6.out)
   clear hb7 HB56 HV6 HT6 HPP
   cases is with
   | true =>
     obtain ⟨x,hx,hrx⟩:=HPI.out rfl
     obtain ⟨b,o,e',hat⟩:=Fa.ElsV.at_ HV7.out hx
     cases e'
     obtain ⟨d0,d1,d2,d3,d4⟩:=crs5 hat
     simp only [show encX.k=5 from rfl] at d0 d1 d2 d3 d4
     have HOX:Hid (O=((x.num,x.den),0)):=Lib.hid (by rw [HO.out,first_at HNO.out HK.out hrx])
     have hpn:pk < n:=by rw [←HN.out];exact (List.getElem?_eq_some_iff.1 hx).1
     have t0:=HT7.out
     obtain ⟨⟨c0,c1⟩,f0,f1⟩:=HW5.out.keep HB7.out (Nat.le_refl _)
     have HBF:=Lib.hid (HB5.out.trans (HB7.out.mono HB5.out.size))
     clear hx hrx hat d0 d1 d2
     go_wp2
     exact bodyPost_ret (v:=.tuple #[.agg #[.int .i64 x.num,.int .i64 x.den],.int .i64 0]) (by simp [results,Tryz.results16,go_sem,c0,c1]) rfl ⟨by rw [HOX.out],(HBF.out.setCell (p:=⟨w.heap.size+2,0,none⟩) (Nat.le_add_right _ _) _).setCell (p:=⟨w.heap.size+2,1,none⟩) (Nat.le_add_right _ _) _⟩
   | false =>
     have hnone:=HPN.out rfl
     have HNN:Hid (∀ (j:Nat) (y:Key3),j < i+1→KS[j]?=some y→rateO L y=none):=Lib.hid (fun j y hj hy=>by
      rcases Nat.lt_or_ge j i with h | h
      ·exact HNO.out j y h hy
      ·obtain rfl:j=i:=by omega
       rw [HK.out] at hy
       cases hy
       exact hnone)
     clear hnone
     go_wp2
     go_roundw
     case rel=>exact ⟨i+1,by go_num,by omega,HNN,HB7⟩
     case measure=>simp [intOf];omega
  ·obtain rfl:i=m:=by omega
   have HOX:Hid (O=((0,0),10)):=Lib.hid (by
    rw [HO.out,first_none fun j y hy=>HNO.out j y (by have:=(List.getElem?_eq_some_iff.1 hy).1;rw [HMM.out] at this;exact this) hy])
   obtain ⟨⟨c0,c1⟩,f0,f1⟩:=HW5.out.keep HBW.out (Nat.le_refl _)
   go_wp2
   exact bodyPost_ret (v:=.tuple #[.agg #[.int .i64 0,.int .i64 0],.int .i64 10]) (by simp [results,Tryz.results16,go_sem,c0,c1]) rfl ⟨by rw [HOX.out],(HBA.out.setCell (p:=⟨w.heap.size+2,0,none⟩) (Nat.le_add_right _ _) _).setCell (p:=⟨w.heap.size+2,1,none⟩) (Nat.le_add_right _ _) _⟩
end Go.Proofs.YthcpglnmhimepaaGreatDoor.Cs.Ta
end
section
namespace Go.Proofs.YthcpglnmhimepaaGreatDoor.Cs.Ta
open Go.RowKit Go.Proofs.YthcpglnmhimepaaGreatDoor.Un Go.Proofs.YthcpglnmhimepaaGreatDoor.Pk
set_option maxRecDepth 100000 in
set_option maxHeartbeats 8000000 in
theorem words_any (x:Crs) (w:World) (hn:In64 x.num) (hd:In64 x.den) (hL:LaidC w):Calls Tryz.prog 30 #[aggX x] w (OwnTold w (wordsX x)):=by
 obtain ⟨xs,xf,xc,xn,xd⟩:=x
 obtain ⟨W1,hW1⟩:∃ W1,w.alloc (.cells #[.string xs,.string xf,.string xc,.int .i64 xn,.int .i64 xd] 85)=W1:=⟨_,rfl⟩
 have hb1:Below w.heap.size w W1:=by rw [←hW1];exact (Below.refl _ w).alloc (Nat.le_refl _) _
 have hx1:ElAt encX W1 w.heap.size 0 ⟨xs,xf,xc,xn,xd⟩:=by rw [←hW1];exact el_new encX w ⟨xs,xf,xc,xn,xd⟩ _
 have HB1:=Lib.hid hb1
 have HL1:=Lib.hid (hL.below hb1)
 have HN:=Lib.hid (show In64 xn from hn)
 have HD:=Lib.hid (show In64 xd from hd)
 obtain ⟨c0,c1,c2,c3,c4⟩:=crs5 hx1
 simp only [Nat.zero_add] at c0 c1 c2 c3 c4
 have r0:=fun q:Past W1=>cell_past c0 q
 have r1:=fun q:Past W1=>cell_past c1 q
 have r2:=fun q:Past W1=>cell_past c2 q
 have r3:=fun q:Past W1=>cell_past c3 q
 have r4:=fun q:Past W1=>cell_past c4 q
 clear hx1 hn hd hL c1 c2 c3 c4 hb1
 by_cases hs:xs=tFlow
 ·have hk:wordsX ⟨xs,xf,xc,xn,xd⟩=[xs,xf,xc,mkB (prt xn xd)]:=if_pos hs
  rw [hk]
  have hz:(xs.toList==[102,108,111,119])=true:=by rw [←flow_list,hs];exact beq_self_eq_true _
  obtain ⟨PT,hPT⟩:∃ PT,mkB (prt xn xd)=PT:=⟨_,rfl⟩
  have hrp:=fun W (h:LaidC W)=>Ra.rprint_any xn xd W HN.out HD.out h
  simp only [show (⟨(prt xn xd).toArray⟩:ByteArray)=PT from hPT] at hrp
  have HRP:=Lib.hid hrp
  rw [hPT]
  clear hs hk hPT hrp
  go_enter Tryz.func30,Tryz.ntmps30
  go_wp2_with fail
  refine wp_region_plan (.one [0,1,2,3,4,5,6,7,8,9,10] 11 (.one [] 12 (.last [13]))) (by kernel_rfl) (by kernel_rfl) (fun d _ _ _ _ h=>by cases d <;> exact h) ?_
  obtain ⟨wq,hwq⟩:∃ wq,W1.drew=wq:=⟨_,rfl⟩
  rw [hwq]
  have HDR:=Lib.hid (show Below W1.heap.size W1 wq by rw [←hwq];exact ⟨rfl,rfl,rfl,Nat.le_refl _,fun _ _=>rfl⟩)
  clear hwq hW1 c0
  simp only [wpPlan,pick,nth]
  repeat (go_big_quiet_step (fail))
  refine wpQuiet_nil ?_
  clear r0 r1 r2 r3 r4
  intro K hK
  refine alone_want (by kernel_rfl) ?_
  go_big_op
  refine (HRP.out wq (HL1.out.below HDR.out)).mono ?_
  rintro en w2 ⟨rfl,hb2⟩
  have HB2:=Lib.hid (HDR.out.trans (hb2.mono HDR.out.size))
  refine hK _ _ (past_in HB2.out) ?_
  clear hK K hb2
  refine wpQuiet_nil ?_
  have hb3:=(Below.refl w2.heap.size w2).alloc (Nat.le_refl _) (.cells #[.string xs,.string xf,.string xc,.string PT] 9)
  have ho3:=row_texts w2 [xs,xf,xc,PT] 9 (by simp [maxLen])
  obtain ⟨w3,hw3⟩:∃ w3,w2.alloc (.cells #[.string xs,.string xf,.string xc,.string PT] 9)=w3:=⟨_,rfl⟩
  replace ho3:w3.ownsRow w2.heap.size 9 1 (.slice (some ⟨w2.heap.size,0,none⟩) 4 4) 4 ([xs,xf,xc,PT].map Value.string):=by rw [←hw3];exact ho3
  rw [hw3] at hb3
  have HB3:=Lib.hid (HB2.out.trans (hb3.mono HB2.out.size))
  have HF3:=Lib.hid (HB1.out.trans (HB3.out.mono HB1.out.size))
  have HO3:=Lib.hid (row_base ho3 (Nat.le_trans HB1.out.size HB2.out.size))
  intro K hK
  refine alone_want (by kernel_rfl) ?_
  go_big_op
  refine hK _ _ (past_in HB3.out) ?_
  clear hK K hb3 ho3 hw3
  repeat (go_big_quiet_step (fail))
  refine wpQuiet_nil ?_
  go_wp2
  go_ret
  exact ⟨_,rfl,HO3.out,HF3.out⟩
 ·have hk:wordsX ⟨xs,xf,xc,xn,xd⟩=[xs,xc,mkB (prt xn xd)]:=if_neg hs
  rw [hk]
  have hz:(xs.toList==[102,108,111,119])=false:=by rw [←flow_list];exact (Lib.bytes_beq_false_iff xs tFlow).2 hs
  obtain ⟨PT,hPT⟩:∃ PT,mkB (prt xn xd)=PT:=⟨_,rfl⟩
  have hrp:=fun W (h:LaidC W)=>Ra.rprint_any xn xd W HN.out HD.out h
  simp only [show (⟨(prt xn xd).toArray⟩:ByteArray)=PT from hPT] at hrp
  have HRP:=Lib.hid hrp
  rw [hPT]
  clear hs hk hPT hrp
  go_enter Tryz.func30,Tryz.ntmps30
  go_wp2_with fail
  refine wp_region_plan (.one [0,1,2,3,4,5,6,7] 8 (.one [] 9 (.last [10]))) (by kernel_rfl) (by kernel_rfl) (fun d _ _ _ _ h=>by cases d <;> exact h) ?_
  obtain ⟨wq,hwq⟩:∃ wq,W1.drew=wq:=⟨_,rfl⟩
  rw [hwq]
  have HDR:=Lib.hid (show Below W1.heap.size W1 wq by rw [←hwq];exact ⟨rfl,rfl,rfl,Nat.le_refl _,fun _ _=>rfl⟩)
  clear hwq hW1 c0
  simp only [wpPlan,pick,nth]
  repeat (go_big_quiet_step (fail))
  refine wpQuiet_nil ?_
  clear r0 r1 r2 r3 r4
  intro K hK
  refine alone_want (by kernel_rfl) ?_
  go_big_op
  refine (HRP.out wq (HL1.out.below HDR.out)).mono ?_
  rintro en w2 ⟨rfl,hb2⟩
  have HB2:=Lib.hid (HDR.out.trans (hb2.mono HDR.out.size))
  refine hK _ _ (past_in HB2.out) ?_
  clear hK K hb2
  refine wpQuiet_nil ?_
  have hb3:=(Below.refl w2.heap.size w2).alloc (Nat.le_refl _) (.cells #[.string xs,.string xc,.string PT] 9)
  have ho3:=row_texts w2 [xs,xc,PT] 9 (by simp [maxLen])
  obtain ⟨w3,hw3⟩:∃ w3,w2.alloc (.cells #[.string xs,.string xc,.string PT] 9)=w3:=⟨_,rfl⟩
  replace ho3:w3.ownsRow w2.heap.size 9 1 (.slice (some ⟨w2.heap.size,0,none⟩) 3 3) 3 ([xs,xc,PT].map Value.string):=by rw [←hw3];exact ho3
  rw [hw3] at hb3
  have HB3:=Lib.hid (HB2.out.trans (hb3.mono HB2.out.size))
  have HF3:=Lib.hid (HB1.out.trans (HB3.out.mono HB1.out.size))
  have HO3:=Lib.hid (row_base ho3 (Nat.le_trans HB1.out.size HB2.out.size))
  intro K hK
  refine alone_want (by kernel_rfl) ?_
  go_big_op
  refine hK _ _ (past_in HB3.out) ?_
  clear hK K hb3 ho3 hw3
  repeat (go_big_quiet_step (fail))
  refine wpQuiet_nil ?_
  go_wp2
  go_ret
  exact ⟨_,rfl,HO3.out,HF3.out⟩
set_option maxRecDepth 100000 in
set_option maxHeartbeats 8000000 in
theorem print_any (v:Value) (L:List Crs) (w:World) (hV:TabV w v L) (hL:L.length≤1000) (hg:∀ x∈L,In64 x.num∧In64 x.den) (hsz:szL (L.map wordsX)≤100000000) (hLC:LaidC w) :
 Calls Tryz.prog 14 #[.agg #[v]] w fun en w'=>en=.returned (.string (printC L))∧Below w.heap.size w w':=by
 obtain ⟨pv,cp,rfl,hcap,hmx,_,hcl⟩:=id hV
 obtain ⟨n,hn⟩:∃ n,L.length=n:=⟨_,rfl⟩
 have hB0:=(Below.refl w.heap.size w).alloc (Nat.le_refl _) (.cells #[.slice pv L.length cp] 41)
 have ht0:(w.alloc (.cells #[.slice pv L.length cp] 41)).cell? ⟨w.heap.size,0,none⟩=some (.slice pv L.length cp):=(cell_of_row _ w.heap.size 0 _ _ (0,0) (heap_alloc_new w _)).trans rfl
 obtain ⟨W0,hW0⟩:∃ W0,w.alloc (.cells #[.slice pv L.length cp] 41)=W0:=⟨_,rfl⟩
 rw [hW0] at hB0 ht0
 have HB0:=Lib.hid hB0
 have HV:=Lib.hid (hV.keep hB0)
 have HLC:=Lib.hid (hLC.below hB0)
 have HNN:=Lib.hid hn
 have HG:=Lib.hid hg
 have HSZ:=Lib.hid hsz
 obtain ⟨i0,hi,hz0,hz1,hz2⟩:=info_parts info_pline
 have HI:=Lib.hid (And.intro hi (And.intro hz0 (And.intro hz1 hz2)))
 obtain ⟨RES,hRES⟩:∃ RES,printC L=RES:=⟨_,rfl⟩
 rw [hRES]
 have HRES:Hid (mkB (textW (L.map wordsX))=RES):=Lib.hid hRES
 rw [hn] at hcap hL HV ht0 hW0
 rw [hn]
 unfold maxLen at hmx
 clear hV hcl hn hg hsz hLC hi hz0 hz1 hz2 hRES hB0
 have HK0:Hid (PrAt W0 W0 (.slice none 0 0) ((L.take 0).map wordsX)):=Lib.hid ⟨RowsAt.nil _ _ _,Below.refl _ _,by simp⟩
 go_enter Tryz.func14,Tryz.ntmps14
 go_wp2
 clear hW0 ht0
 go_loopw [3,9] (fun s3 si wr=>∃ (i:Nat) (v3:Value),i≤n∧si=.int .i64 (i:Int)∧v3=s3∧Hid (PrAt W0 wr v3 ((L.take i).map wordsX))) (fun _ si _=>n - (intOf si).toNat)
 case atStart=>exact ⟨0,_,Nat.zero_le _,rfl,rfl,HK0⟩
 case round =>
  obtain ⟨i,v3,hi,rfl,rfl,HP⟩:=hrel
  obtain ⟨KK,hKK⟩:∃ KK,(L.take i).map wordsX=KK:=⟨_,rfl⟩
  rw [hKK] at HP
  by_cases hlt:i < n
  ·obtain ⟨x,hx⟩:∃ x,L[i]?=some x:=⟨_,List.getElem?_eq_getElem (by rw [HNN.out];exact hlt)⟩
   have HTK:Hid (KK++[wordsX x]=(L.take (i+1)).map wordsX):=Lib.hid (by rw [map_take_succ hx,←hKK])
   have HKL:Hid (KK.length≤1000):=Lib.hid (by rw [←hKK];simp;omega)
   have HGX:=Lib.hid (HG.out x (List.mem_of_getElem? hx))
   clear hKK
   obtain ⟨b,o,e',hat⟩:=Fa.ElsV.at_ HV.out hx
   cases e'
   obtain ⟨d0,d1,d2,d3,d4⟩:=crs5 (hat.keep HP.out.bel hat.lt)
   simp only [show encX.k=5 from rfl] at d0 d1 d2 d3 d4
   have hbx:=(Below.refl wr.heap.size wr).alloc (Nat.le_refl _) (.cells (encX.cs x).toArray 85)
   have hq:=BoxE.new encX wr x 85
   obtain ⟨W3,hW3⟩:∃ W3,wr.alloc (.cells #[.string x.sort,.string x.flw,.string x.cur,.int .i64 x.num,.int .i64 x.den] 85)=W3:=⟨_,rfl⟩
   replace hbx:Below wr.heap.size wr W3:=by rw [←hW3];exact hbx
   replace hq:BoxE encX W3 wr.heap.size 85 x:=by rw [←hW3];exact hq
   have HL1:=Lib.hid (HLC.out.below (HP.out.bel.trans (hbx.mono HP.out.bel.size)))
   have HBX0:=Lib.hid hbx
   obtain ⟨q0,q1,q2,q3,q4⟩:=crs5 hq.at0
   simp only [Nat.zero_add] at q0 q1 q2 q3 q4
   clear hat hx hbx hq
   go_wp2_with fail
   clear d0 d1 d2 d3 d4 q0 q1 q2 q3 q4 hW3
   refine (words_any x _ HGX.out.1 HGX.out.2 HL1.out).mono ?_
   rintro en w4 ⟨v4,rfl,ho4,hb4⟩
   obtain ⟨WS,hWS⟩:∃ WS,wordsX x=WS:=⟨_,rfl⟩
   rw [hWS] at ho4 HTK
   have HBX:=Lib.hid (HBX0.out.trans (hb4.mono HBX0.out.size))
   obtain ⟨pu,cu,rfl⟩:=row_slice' ho4
   have HU4:=Lib.hid (row_base ho4 (Nat.le_trans HP.out.bel.size HBX0.out.size))
   clear ho4 hb4 hWS
   have HP4:Hid (PrAt W0 w4 v3 KK):=Lib.hid ⟨HP.out.rows.below HBX.out,HP.out.bel.trans (HBX.out.mono HP.out.bel.size),HP.out.len⟩
   have BX5:=Lib.hid ((Below.refl w4.heap.size w4).alloc (Nat.le_refl _) (.cells #[.int .i64 0,.slice pu WS.length cu] 81))
   go_wp2_with (at_builtin;refine wpList_append_line rfl _ _ 78 rfl W0.heap.size 81 i0 Tryz.underlying78 HI.out.1 HI.out.2.1 HI.out.2.2.1 HI.out.2.2.2 (by decide) KK WS (.slice pu WS.length cu) w4.heap.size (HP4.out.rows.below BX5.out) rfl (line_new w4 _ _).1 (line_new w4 _ _).2 (row_below HU4.out BX5.out) (Nat.le_trans HP4.out.bel.size BX5.out.size) (by have:=HP4.out.len;omega) ?_;intro v6 w6 hr6 hb6 hg6)
   have HP6:Hid (PrAt W0 w6 v6 (KK++[WS])):=Lib.hid ⟨hr6,(HP4.out.bel.trans (BX5.out.mono HP4.out.bel.size)).trans hb6,by have:=HKL.out;simp;omega⟩
   clear hr6 hb6 hg6
   go_wp2
   go_roundw
   case rel=>exact ⟨i+1,_,by omega,by go_num,rfl,by rw [←HTK.out];exact HP6⟩
   case measure=>simp [intOf];omega
  ·have HKN:Hid (KK=L.map wordsX):=Lib.hid (by rw [←hKK,List.take_of_length_le (by rw [HNN.out];omega)])
   clear hKK
   have HTX:Hid (LinesV wr v3 (zn (L.map wordsX))):=Lib.hid (by have:=HP.out.rows.lines;rw [HKN.out] at this;exact this)
   have HJL:Hid (joinL (zn (L.map wordsX))=textW (L.map wordsX)):=Lib.hid (by rw [joinL_text];simp [zn,List.map_map,Function.comp_def])
   have HJO:=Lib.hid (join_any v3 (zn (L.map wordsX)) wr HTX.out (by rw [HJL.out,textW_length];have:=HSZ.out;omega))
   rw [HJL.out,HRES.out] at HJO
   go_wp2_with fail
   refine HJO.out.mono ?_
   rintro en w9 ⟨rfl,hb9⟩
   have HB9:=Lib.hid ((HB0.out.trans (HP.out.bel.mono HB0.out.size)).trans (hb9.mono (Nat.le_trans HB0.out.size HP.out.bel.size)))
   clear hb9
   go_wp2
   go_ret
   exact ⟨rfl,HB9.out⟩
end Go.Proofs.YthcpglnmhimepaaGreatDoor.Cs.Ta
end
section
namespace Go.Proofs.YthcpglnmhimepaaGreatDoor.Un
open Go.RowKit
theorem wp_append_lines {P:Program} {o:Oper} {a:Act} {w:World} {K:Act→World→Prop} {Q:Exit→Act→World→Prop} (s x:Operand) (t:TypeId) (ho:o.op=.call { callee:=.builtin .append,args:=#[s,x],argTypes:=#[t,t] })
 (B:Nat) (e:TypeId) (i:TypeInfo) (ht:P.underlying t=some (.slice e)) (hi:P.info? e=some i) (hz:i.zero=some (.agg #[.int .i64 0,.slice none 0 0])) (hsz:i.size=2) (hby:i.bytes=32) (hne:e≠9)
 (v:Value) (KK L:List (List ByteArray)) (PV:List (Int × Value)) (g m:Nat) (hs:a.eval s=v) (hrow:RowsAt w B e v KK) (hx:a.eval x=.slice (some ⟨g,0,none⟩) m m) (hm:PV.length=m) (hc:∀ (j:Nat) (u:Value),(flatL PV)[j]?=some u→w.cell? ⟨g,j,none⟩=some u) (hone:∀ y∈flatL PV,y.oneCell'=true) (hu:WordsOwn w B 9 PV (zn L)) (hB:B≤w.heap.size) (hK:KK.length+m≤100000)
 (h:∀ v' w',RowsAt w' B e v' (KK++L)→Below B w w'→w.grownBy w' v.ownBlock→K (a.put o.dst v') w'):o.wp P a w K Q:=by
 obtain ⟨LV,h1,h2⟩:=hrow
 have hlen:LV.length=KK.length:=by have:=h2.1;simpa [zn] using this
 refine wp_append_own w s x t ho B e i _ 2 32 ht hi hz hsz hby rfl (by decide) v LV.length (flatL LV) hs h1 ⟨g,0,none⟩ m m (flatL PV) hx (by rw [flatL_length,hm]) (fun j u hj=>by rw [add_off,Nat.zero_add];exact hc j u hj) hone (by unfold maxLen;omega) (by omega) hB ?_
 intro v' w' h3 h4 _
 have hk:∀ (q:Value) (n:Nat) (xs:List Value),w.ownsRow B 9 1 q n xs→w'.ownsRow B 9 1 q n xs:=fun q n xs hq=>hq.kept h4 (row_apart h1 hq hne)
 refine h v' w' ⟨LV++PV,?_,?_⟩ (below_grown (Below.refl _ _) hB h1 h4) h4
 ·rw [show flatL (LV++PV)=flatL LV++flatL PV by simp [flatL],List.length_append,hm];exact h3
 ·have ha:=h2.mono hk
  have hb:=hu.mono hk
  refine ⟨by rw [List.length_append,ha.1,hb.1];simp [zn],fun i x y hx hy=>?_⟩
  rw [show zn (KK++L)=zn KK++zn L by simp [zn]] at hy
  by_cases hi:i < LV.length
  ·rw [List.getElem?_append_left hi] at hx
   rw [List.getElem?_append_left (by rw [←ha.1];exact hi)] at hy
   exact ha.2 i x y hx hy
  ·rw [List.getElem?_append_right (by omega)] at hx
   rw [List.getElem?_append_right (by rw [←ha.1];omega),←ha.1] at hy
   exact hb.2 _ x y hx hy
theorem line_words {w:World} {B:Nat} {u:Value} {ws:List ByteArray} (hu:w.ownsRow B 9 1 u ws.length (ws.map Value.string)):WordsOwn w B 9 [((0:Int),u)] (zn [ws]):=by
 refine ⟨rfl,fun i x y hx hy=>?_⟩
 match i,hx,hy with
 | 0,hx,hy=>simp [zn] at hx hy;subst hx hy;exact ⟨rfl,hu⟩
 | i+1,hx,_=>simp at hx
theorem info_rpline:(Tryz.prog.info? 68).map (fun i=>(i.zero,i.size,i.bytes))=some (some (.agg #[.int .i64 0,.slice none 0 0]),2,32):=by kernel_rfl
structure PrAtR (W0 wr:World) (v:Value) (K:List (List ByteArray)):Prop where
 rows:RowsAt wr W0.heap.size 68 v K
 bel:Below W0.heap.size W0 wr
 len:K.length≤50000
end Go.Proofs.YthcpglnmhimepaaGreatDoor.Un
end
section
namespace Go.Proofs.YthcpglnmhimepaaGreatDoor.Cs
open Go.RowKit Go.Proofs.YthcpglnmhimepaaGreatDoor.Un Go.Proofs.YthcpglnmhimepaaGreatDoor.Pk
theorem words_more (x:Crs):wordsK x++[mkB (prt x.num x.den)]=wordsX x:=by unfold wordsK wordsX;split <;> rfl
theorem text_new (w:World) (s:ByteArray) (t:TypeId):(w.alloc (.cells #[.string s] t)).cell? ⟨w.heap.size,0,none⟩=some (.string s) :=
 (cell_of_row _ w.heap.size 0 _ t (0,0) (heap_alloc_new w _)).trans rfl
theorem info_text:(Tryz.prog.info? 9).map (fun i=>(i.zero,i.size,i.bytes))=some (some (.string ⟨#[]⟩),1,16):=by kernel_rfl
theorem wp_append_text {o:Oper} {a:Act} {w:World} {K:Act→World→Prop} {Q:Exit→Act→World→Prop} (s x:Operand) (ho:o.op=.call { callee:=.builtin .append,args:=#[s,x],argTypes:=#[66,66] })
 (B:Nat) (v:Value) (ws:List ByteArray) (y:ByteArray) (g:Nat) (hs:a.eval s=v) (hrow:w.ownsRow B 9 1 v ws.length (ws.map Value.string)) (hx:a.eval x=.slice (some ⟨g,0,none⟩) 1 1) (hc:w.cell? ⟨g,0,none⟩=some (.string y)) (hB:B≤w.heap.size) (hK:ws.length≤1000)
 (h:∀ v' w',w'.ownsRow B 9 1 v' (ws++[y]).length ((ws++[y]).map Value.string)→Below B w w'→K (a.put o.dst v') w'):o.wp Tryz.prog a w K Q:=by
 obtain ⟨i,hi,hz,hsz,hby⟩:=info_parts info_text
 refine wp_append_own w s x 66 ho B 9 i _ 1 16 Tryz.underlying66 hi hz hsz hby rfl (by decide) v ws.length _ hs hrow ⟨g,0,none⟩ 1 1 [.string y] hx rfl (fun j u hj=>?_) (fun u hu=>?_) (by unfold maxLen;omega) (by omega) hB ?_
 ·match j,hj with
  | 0,hj=>cases hj;rw [add_off];exact hc
  | j+1,hj=>simp at hj
 ·simp at hu;subst hu;rfl
 ·intro v' w' h1 h2 _
  refine h v' w' ?_ (below_grown (Below.refl _ _) hB hrow h2)
  rw [List.length_append,List.map_append]
  exact h1
set_option maxRecDepth 100000 in
set_option maxHeartbeats 8000000 in
theorem print_any (v:Value) (L:List Crs) (w:World) (hV:TabV w v L) (hL:L.length≤1000) (hg:∀ x∈L,In64 x.num∧In64 x.den) (hfew:∀ ws∈L.map wordsX,ws.length≤60∧∀ y∈ws,y.size≤100) :
 Calls Tryz.prog 15 #[v] w fun en w'=>en=.returned (.string (printC L))∧Below w.heap.size w w':=by
 obtain ⟨pv,cp,rfl,hcap,hmx,_,hcl⟩:=id hV
 obtain ⟨n,hn⟩:∃ n,L.length=n:=⟨_,rfl⟩
 have HV:=Lib.hid hV
 have HNN:=Lib.hid hn
 have HG:=Lib.hid hg
 have HFEW:=Lib.hid hfew
 obtain ⟨i0,hi,hz0,hz1,hz2⟩:=info_parts info_rpline
 have HI:=Lib.hid (And.intro hi (And.intro hz0 (And.intro hz1 hz2)))
 obtain ⟨RES,hRES⟩:∃ RES,printC L=RES:=⟨_,rfl⟩
 rw [hRES]
 have HRES:Hid (mkB (textW (L.map wordsX))=RES):=Lib.hid hRES
 rw [hn] at hcap hL HV
 rw [hn]
 clear hV hcl hn hg hfew hi hz0 hz1 hz2 hRES hmx
 have HK0:Hid (PrAtR w w (.slice none 0 0) ((L.take 0).map wordsX)):=Lib.hid ⟨RowsAt.nil _ _ _,Below.refl _ _,by simp⟩
 go_enter Tryz.func15,Tryz.ntmps15
 go_wp2
 go_loopw [3,4] (fun s3 si wr=>∃ (i:Nat) (v3:Value),i≤n∧si=.int .i64 (i:Int)∧v3=s3∧Hid (PrAtR w wr v3 ((L.take i).map wordsX))) (fun _ si _=>n - (intOf si).toNat)
 case atStart=>exact ⟨0,_,Nat.zero_le _,rfl,rfl,HK0⟩
 case round =>
  obtain ⟨i,v3,hi,rfl,rfl,HP⟩:=hrel
  obtain ⟨KK,hKK⟩:∃ KK,(L.take i).map wordsX=KK:=⟨_,rfl⟩
  rw [hKK] at HP
  by_cases hlt:i < n
  ·obtain ⟨x,hx⟩:∃ x,L[i]?=some x:=⟨_,List.getElem?_eq_getElem (by rw [HNN.out];exact hlt)⟩
   have HTK:Hid (KK++[wordsX x]=(L.take (i+1)).map wordsX):=Lib.hid (by rw [map_take_succ hx,←hKK])
   have HKL:Hid (KK.length≤1000):=Lib.hid (by rw [←hKK];simp;omega)
   have HGX:=Lib.hid (HG.out x (List.mem_of_getElem? hx))
   clear hKK
   obtain ⟨b,o,e',hat⟩:=Fa.ElsV.at_ HV.out hx
   cases e'
   have hbw:b < w.heap.size:=hat.lt
   obtain ⟨d0,d1,d2,d3,d4⟩:=crs5 (hat.keep HP.out.bel hat.lt)
   simp only [show encX.k=5 from rfl] at d0 d1 d2 d3 d4
   have r0:=fun p:Since w.heap.size wr=>cell_since d0 hbw p
   have r1:=fun p:Since w.heap.size wr=>cell_since d1 hbw p
   have r2:=fun p:Since w.heap.size wr=>cell_since d2 hbw p
   have r3:=fun p:Since w.heap.size wr=>cell_since d3 hbw p
   have r4:=fun p:Since w.heap.size wr=>cell_since d4 hbw p
   have HWX:=Lib.hid (words_more x)
   obtain ⟨xs,xf,xc,xn,xd⟩:=x
   simp only at r0 r1 r2 r3 r4 HGX HWX
   clear hat hx d0 d1 d2 d3 d4
   go_wp2_with fail
   refine wp_region_since w.heap.size (.one [0,1,2,3,4,6,7,8,9,10] 5 (.one [] 11 (.one [] 12 (.one [] 13 (.one [14] 15 (.one [] 16 (.last [17]))))))) (by kernel_rfl) (by kernel_rfl) (fun d _ _ _ _ h=>by cases d <;> exact h) ?_
   obtain ⟨wq,hwq⟩:∃ wq,wr.drew=wq:=⟨_,rfl⟩
   rw [hwq]
   have HD0:Hid (Below wr.heap.size wr wq):=Lib.hid (by rw [←hwq];exact ⟨rfl,rfl,rfl,Nat.le_refl _,fun _ _=>rfl⟩)
   clear hwq
   simp only [wpPlan,pick,nth]
   repeat (go_big_quiet_step (fail))
   refine wpQuiet_nil ?_
   clear r0 r1 r2 r3 r4
   intro K hK
   refine alone_want (by kernel_rfl) ?_
   go_big_op
   refine (words_any ⟨xs,xf,xc,xn,xd⟩ wq).mono ?_
   rintro en w4 ⟨v4,rfl,ho4,hb4⟩
   obtain ⟨WS,hWS⟩:∃ WS,wordsK ⟨xs,xf,xc,xn,xd⟩=WS:=⟨_,rfl⟩
   rw [hWS] at ho4 HWX
   have HQ0:Hid (w.heap.size≤wq.heap.size):=Lib.hid (Nat.le_trans HP.out.bel.size HD0.out.size)
   have HO4:=Lib.hid ho4
   have HQ4:=Lib.hid hb4
   have HPQ:Hid (RowsAt wq w.heap.size 68 v3 KK):=Lib.hid (HP.out.rows.below HD0.out)
   have HS4:Hid (Below w.heap.size wr w4):=Lib.hid ((HD0.out.mono HP.out.bel.size).trans (hb4.mono HQ0.out))
   have HP4:Hid (PrAtR w w4 v3 KK):=Lib.hid ⟨(HP.out.rows.below HD0.out).below hb4,HP.out.bel.trans HS4.out,HP.out.len⟩
   have HW4:Hid (WS.length≤1000):=Lib.hid (by rw [←hWS];unfold wordsK;split <;> simp)
   refine hK _ w4 (since_in HS4.out) ?_
   clear hK K ho4 hb4 hWS HD0 HP
   refine wpQuiet_nil ?_
   intro K hK
   refine alone_want (by kernel_rfl) ?_
   go_big_op
   refine (Ra.qprint_any xn xd w4 HGX.out.1 HGX.out.2).mono ?_
   rintro en w5 ⟨rfl,hb5⟩
   obtain ⟨PT,hPT⟩:∃ PT,mkB (prt xn xd)=PT:=⟨_,rfl⟩
   rw [show (⟨(prt xn xd).toArray⟩:ByteArray)=PT from hPT]
   rw [hPT] at HWX
   have HO5:=Lib.hid (row_below HO4.out hb5)
   have HZ5:Hid (wq.heap.size≤w5.heap.size):=Lib.hid (Nat.le_trans HQ4.out.size hb5.size)
   have HQ5:=Lib.hid (HQ4.out.trans (hb5.mono HQ4.out.size))
   have HS5:Hid (Below w.heap.size wr w5):=Lib.hid (HS4.out.trans (hb5.mono HP4.out.bel.size))
   have HP5:Hid (PrAtR w w5 v3 KK):=Lib.hid ⟨HP4.out.rows.below hb5,HP4.out.bel.trans (hb5.mono HP4.out.bel.size),HP4.out.len⟩
   refine hK _ w5 (since_in HS5.out) ?_
   clear hK K hb5 hPT HO4 HP4 HS4
   refine wpQuiet_nil ?_
   intro K hK
   refine alone_want (by kernel_rfl) ?_
   have hb6:=(Below.refl w5.heap.size w5).alloc (Nat.le_refl _) (.cells #[.string PT] 9)
   have ht6:=text_new w5 PT 9
   obtain ⟨w6,hw6⟩:∃ w6,w5.alloc (.cells #[.string PT] 9)=w6:=⟨_,rfl⟩
   rw [hw6] at hb6 ht6
   go_big_op
   have HO6:=Lib.hid (row_below HO5.out hb6)
   have HQ6:=Lib.hid (HQ5.out.trans (hb6.mono HZ5.out))
   have HZ6:Hid (wq.heap.size≤w6.heap.size):=Lib.hid (Nat.le_trans HZ5.out hb6.size)
   have HS6:Hid (Below w.heap.size wr w6):=Lib.hid (HS5.out.trans (hb6.mono HP5.out.bel.size))
   have HP6:Hid (PrAtR w w6 v3 KK):=Lib.hid ⟨HP5.out.rows.below hb6,HP5.out.bel.trans (hb6.mono HP5.out.bel.size),HP5.out.len⟩
   refine hK _ w6 (since_in HS6.out) ?_
   clear hK K hb6 hw6 HO5 HP5 HS5
   refine wpQuiet_nil ?_
   intro K hK
   refine alone_want (by kernel_rfl) ?_
   refine wp_append_text _ _ rfl wq.heap.size v4 WS PT w5.heap.size rfl HO6.out rfl ht6 HZ6.out HW4.out ?_
   intro v7 w7 ho7 hb7
   rw [HWX.out] at ho7
   obtain ⟨WX,hWX⟩:∃ WX,wordsX ⟨xs,xf,xc,xn,xd⟩=WX:=⟨_,rfl⟩
   rw [hWX] at ho7 HTK
   obtain ⟨pu,cu,rfl⟩:=row_slice' ho7
   have HU7:=Lib.hid (row_base ho7 HQ0.out)
   have HQ7:=Lib.hid (HQ6.out.trans hb7)
   have HS7:Hid (Below w.heap.size wr w7):=Lib.hid (HS6.out.trans (hb7.mono HQ0.out))
   have HP7:Hid (PrAtR w w7 v3 KK):=Lib.hid ⟨HPQ.out.below HQ7.out,HP6.out.bel.trans (hb7.mono HQ0.out),HP6.out.len⟩
   refine hK _ w7 (since_in HS7.out) ?_
   clear hK K ho7 hb7 ht6 hWX HP6 HS6 HO6 HQ4 HQ5 HQ6
   simp only [Act.put,List.setIfInBounds_toArray,List.set_cons_zero,List.set_cons_succ]
   repeat (go_big_quiet_step (fail))
   refine wpQuiet_nil ?_
   intro K hK
   refine alone_want (by kernel_rfl) ?_
   go_big_op
   have hl8:=line_new w7 (.slice pu WX.length cu) 68
   have BX8:=Lib.hid ((Below.refl w7.heap.size w7).alloc (Nat.le_refl _) (.cells #[.int .i64 0,.slice pu WX.length cu] 68))
   refine hK _ _ (since_in (HS7.out.trans (BX8.out.mono HP7.out.bel.size))) ?_
   clear hK K
   refine wpQuiet_nil ?_
   intro K hK
   refine alone_want (by kernel_rfl) ?_
   refine wp_append_lines _ _ 60 rfl w.heap.size 68 i0 Tryz.underlying60 HI.out.1 HI.out.2.1 HI.out.2.2.1 HI.out.2.2.2 (by decide) v3 KK [WX] [((0:Int),.slice pu WX.length cu)] w7.heap.size 1 rfl (HP7.out.rows.below BX8.out) rfl rfl (fun j u hj=>?_) (fun y hy=>?_) (line_words (row_below HU7.out BX8.out)) (Nat.le_trans HP7.out.bel.size BX8.out.size) (by have:=HP7.out.len;omega) ?_
   ·match j,hj with
    | 0,hj=>cases hj;exact hl8.1
    | 1,hj=>cases hj;exact hl8.2
    | j+2,hj=>simp [flatL] at hj
   ·simp [flatL] at hy;rcases hy with rfl | rfl <;> rfl
   intro v9 w9 hr9 hb9 hg9
   have HP9:Hid (PrAtR w w9 v9 (KK++[WX])):=Lib.hid ⟨hr9,(HP7.out.bel.trans (BX8.out.mono HP7.out.bel.size)).trans hb9,by have:=HKL.out;simp;omega⟩
   have HS9:=Lib.hid ((HS7.out.trans (BX8.out.mono HP7.out.bel.size)).trans hb9)
   refine hK _ _ (since_in HS9.out) ?_
   clear hK K hl8 hr9 hb9 hg9
   simp only [Act.put,List.setIfInBounds_toArray,List.set_cons_zero,List.set_cons_succ]
   repeat (go_big_quiet_step (fail))
   refine wpQuiet_nil ?_
   go_wp2
   go_roundw
   case rel=>exact ⟨i+1,_,by omega,by go_num,rfl,by rw [←HTK.out];exact HP9⟩
   case measure=>simp [intOf];omega
  ·have HKN:Hid (KK=L.map wordsX):=Lib.hid (by rw [←hKK,List.take_of_length_le (by rw [HNN.out];omega)])
   have HLI:Hid (LinesV wr v3 (zn (L.map wordsX))):=Lib.hid (by have:=HP.out.rows.lines;rw [HKN.out] at this;exact this)
   have HLN:Hid ((zn (L.map wordsX)).length≤10000):=Lib.hid (by simp [zn];rw [HNN.out];omega)
   have HJ:=Lib.hid (rjoin_at v3 (zn (L.map wordsX)) wr HLI.out HLN.out (fun y hy=>by
    obtain ⟨ws,hw,rfl⟩:=List.mem_map.1 hy
    exact HFEW.out ws hw))
   have hjt:joinL (zn (L.map wordsX))=textW (L.map wordsX):=by rw [joinL_text];simp [zn,List.map_map,Function.comp_def]
   rw [hjt,HRES.out] at HJ
   have HBE:=Lib.hid HP.out.bel
   clear hjt hKK HP
   go_wp2_with fail
   refine HJ.out.mono ?_
   rintro en w9 ⟨rfl,rfl⟩
   go_wp2
   go_ret
   exact ⟨rfl,HBE.out⟩
end Go.Proofs.YthcpglnmhimepaaGreatDoor.Cs
end
