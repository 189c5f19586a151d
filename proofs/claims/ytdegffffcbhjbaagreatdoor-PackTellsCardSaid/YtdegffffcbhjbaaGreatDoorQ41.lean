/- PkPick PkDocMem PkDocBegin CentRefParse -/
import Derived.Test.YtdegffffcbhjbaaGreatDoorQ23
import Derived.Test.YtdegffffcbhjbaaGreatDoorQ30
import Derived.Test.YtdegffffcbhjbaaGreatDoorQ32
section
namespace Go.Proofs.YtdegffffcbhjbaaGreatDoor.Pk
open Go.RowKit
set_option maxHeartbeats 1000000 in
theorem rpick_had (s:ByteArray) (v:Value) (ws:List ByteArray) (w:World) (h:StrsV w v ws) :
 Calls Tryz.prog 56 #[.string s,v] w fun e w'=>(∃ r:Int,e=.returned (.int .i64 r)∧(0≤r ↔ s∈ws))∧w=w':=by
 obtain ⟨a,c,rfl,hcap,hm,hc⟩:=h
 obtain ⟨n,hn⟩:∃ n,ws.length=n:=⟨_,rfl⟩
 rw [hn] at hm ⊢
 have HN:=Lib.hid hn
 have HC:=Lib.hid hc
 unfold maxLen at hm
 clear hn hc
 go_enter Tryz.func56,Tryz.ntmps56
 go_wp2
 go_loop [5] (fun i=>∃ j:Nat,j≤n∧i=.int .i64 (j:Int)∧Hid (∀ m:Nat,m < j→ws[m]?≠some s)) (fun i=>n - (intOf i).toNat)
 case atStart=>exact ⟨0,Nat.zero_le _,rfl,Lib.hid fun m hm=>absurd hm (Nat.not_lt_zero _)⟩
 case round =>
  obtain ⟨j,hj,rfl,HNO⟩:=hrel
  by_cases hlt:j < n
  ·obtain ⟨x,hx⟩:∃ x,ws[j]?=some x:=⟨_,List.getElem?_eq_getElem (by rw [HN.out];exact hlt)⟩
   obtain ⟨b,o,rfl,d⟩:=HC.out j x hx
   have HX:=Lib.hid hx
   clear hx
   cases hxs:(x.toList==s.toList) with
   | true =>
     have hin:Hid (s∈ws):=Lib.hid (by
      rw [←(Lib.bytes_beq_iff x s).1 hxs]
      exact List.mem_of_getElem? HX.out)
     go_wp2
     go_ret
     exact ⟨⟨_,rfl,⟨fun _=>hin.out,fun _=>Int.natCast_nonneg _⟩⟩,rfl⟩
   | false =>
     have hxe:Hid (x≠s):=Lib.hid ((Lib.bytes_beq_false_iff x s).1 hxs)
     go_wp2
     go_round
     case rel=>exact ⟨j+1,by omega,by go_num,Lib.hid fun m hm he=>by
      rcases Nat.lt_or_ge m j with h | h
      ·exact HNO.out m h he
      ·obtain rfl:m=j:=by omega
       rw [HX.out] at he
       exact hxe.out (Option.some.inj he)⟩
     case measure=>simp [intOf];omega
  ·have hno:Hid (s ∉ ws):=Lib.hid (fun hin=>by
    obtain ⟨k,hk,rfl⟩:=List.getElem_of_mem hin
    exact HNO.out k (by have:=HN.out;omega) (List.getElem?_eq_getElem hk))
   go_wp2
   go_ret
   exact ⟨⟨_,rfl,⟨fun h=>absurd h (by decide),fun h=>absurd h hno.out⟩⟩,rfl⟩
end Go.Proofs.YtdegffffcbhjbaaGreatDoor.Pk
end
section
namespace Go.Proofs.YtdegffffcbhjbaaGreatDoor.Pk
open Go.RowKit Go.Maps Go.Proofs.YtdegffffcbhjbaaGreatDoor.Un
theorem infoT:InfoE Tryz.prog 67 9 encT:=.of (z:=.string ⟨#[]⟩) (n:=16) Tryz.underlying67 (by kernel_rfl) rfl (by decide)
theorem strs_own {w:World} {B:Nat} {e:TypeId} {v:Value} {L:List ByteArray} (h:w.ownsRow B e 1 v L.length (flat encT L)):StrsV w v L:=by
 obtain ⟨p,c,e,h1,h2,h3,hc⟩:=els_of_own (E:=encT) h
 refine ⟨p,c,e,h1,by omega,fun i x hx=>?_⟩
 obtain ⟨b,o,e',hat⟩:=hc i x hx
 refine ⟨b,o,e',?_⟩
 have:=hat 0 _ rfl
 rwa [show encT.k=1 from rfl,Nat.mul_one,Nat.add_zero] at this
theorem PD.zero (w:World) (B:Nat):PD w B zeroV st0:=⟨World.ownsRow_nil _ _ _ _,World.ownsRow_nil _ _ _ _,rfl,rfl⟩
theorem box_ent {W:World} {g:Nat} {t:TypeId} {x:PV} (h:BoxE encV W g t x) (s:ByteArray):BoxE encV (W.setCell ⟨g,1,none⟩ (.string s)) g t { x with ent:=s }:=by
 unfold BoxE at h ⊢
 rw [Joins.block_setCell h]
 rfl
theorem box_mrk {W:World} {g:Nat} {t:TypeId} {x:PV} (h:BoxE encV W g t x) (k:Int):BoxE encV (W.setCell ⟨g,2,none⟩ (.int .i64 k)) g t { x with mrk:=k }:=by
 unfold BoxE at h ⊢
 rw [Joins.block_setCell h]
 rfl
theorem box_vh {W:World} {g:Nat} {t:TypeId} {x:PV} (h:BoxE encV W g t x) (p:Option Addr) (n c:Nat):BoxE encV (W.setCell ⟨g,3,none⟩ (.slice p n c)) g t { x with ph:=p,nh:=n,ch:=c }:=by
 unfold BoxE at h ⊢
 rw [Joins.block_setCell h]
 rfl
theorem had_put {w wa:World} {B g:Nat} {x y:PV} {S:St} {b:ByteArray} {p2:Option Addr} {m2 q2:Nat} (h:PD w B x S) (hb:BoxE encV w g 94 y) (hf:y.vf=x.vf) (hg:w.grownBy wa x.vh.ownBlock)
 (hr:wa.ownsRow B 9 1 (.slice p2 m2 q2) (S.had++[b]).length (flat encT (S.had++[b]))) :
 BoxE encV wa g 94 y∧BoxE encV (wa.setCell ⟨g,3,none⟩ (.slice p2 m2 q2)) g 94 { y with ph:=p2,nh:=m2,ch:=q2 }∧PD (wa.setCell ⟨g,3,none⟩ (.slice p2 m2 q2)) B { y with ph:=p2,nh:=m2,ch:=q2 } ⟨y.ent,y.mrk,S.had++[b],S.facts⟩:=by
 have h1:=box_append hb h.had (by decide) hg
 have hfr:=h.facts.kept hg (own_apart (by decide) h.had h.facts)
 have hs:=set_grown wa g 3 (.slice p2 m2 q2)
 refine ⟨h1,box_vh h1 p2 m2 q2,?_,?_,rfl,rfl⟩
 ·show World.ownsRow _ B 53 6 y.vf S.facts.length _
  rw [hf]
  exact hfr.kept hs (boxE_apart h1 hfr (by decide))
 ·exact hr.kept hs (boxE_apart h1 hr (by decide))
end Go.Proofs.YtdegffffcbhjbaaGreatDoor.Pk
end
section
namespace Go.Proofs.YtdegffffcbhjbaaGreatDoor.Pk
open Go.RowKit Go.Maps Go.Proofs.YtdegffffcbhjbaaGreatDoor.Un
set_option maxRecDepth 100000 in
set_option maxHeartbeats 16000000 in
theorem rbegin_any (u:Value) (ws:List ByteArray) (w:World) (B:Nat) (c f e l:Value) (M:Mast) (S:St) (x:PV) (hu:StrsV w u ws) (hlo:∀ k,u.ownBlock=some k→k < B) (h0:wd ws 0=tPackage∨wd ws 0=tJournal) (hsz:∀ y∈ws,y.size≤1000000) (hB:B≤w.heap.size) (hm:MastIn w c f e l M) (hh:S.had.length≤1000000) (h:PD w B x S) :
 Calls Tryz.prog 32 #[aggM c f e l M,aggV x,u] w (TurnTold w B (lineV S ws) (lineE M S ws)):=by
 obtain ⟨pc,cc,pf,cf,pe,ce,pl,cl,rfl,rfl,rfl,rfl⟩:=shapes hm
 have hn1:=nine_new w (.slice pc M.chart.length cc) (.slice pf M.flows.length cf) (.slice pe M.ents.length ce) (.slice pl M.lines.length cl) M 36
 have hb1:=(Below.refl w.heap.size w).alloc (Nat.le_refl _) (.cells (cellsM (.slice pc M.chart.length cc) (.slice pf M.flows.length cf) (.slice pe M.ents.length ce) (.slice pl M.lines.length cl) M) 36)
 obtain ⟨W1,hW1⟩:∃ W1,w.alloc (.cells (cellsM (.slice pc M.chart.length cc) (.slice pf M.flows.length cf) (.slice pe M.ents.length ce) (.slice pl M.lines.length cl) M) 36)=W1:=⟨_,rfl⟩
 have hs1:W1.heap.size=w.heap.size+1:=by rw [←hW1,World.size_alloc]
 rw [hW1] at hb1 hn1
 have hx2:BoxE encV (W1.alloc (.cells (vCells x) 94)) W1.heap.size 94 x:=BoxE.new encV W1 x 94
 have hb2:=(Below.refl W1.heap.size W1).alloc (Nat.le_refl _) (.cells (vCells x) 94)
 obtain ⟨W2,hW2⟩:∃ W2,W1.alloc (.cells (vCells x) 94)=W2:=⟨_,rfl⟩
 have hs2:W2.heap.size=w.heap.size+1+1:=by rw [←hW2,World.size_alloc,hs1]
 rw [hW2] at hx2 hb2
 have hx3:BoxE encV (W2.alloc (.cells #[.slice none 0 0,.string ⟨#[]⟩,.int .i64 0,.slice none 0 0] 94)) W2.heap.size 94 zeroV:=BoxE.new encV W2 zeroV 94
 have hb3:=(Below.refl W2.heap.size W2).alloc (Nat.le_refl _) (.cells #[.slice none 0 0,.string ⟨#[]⟩,.int .i64 0,.slice none 0 0] 94)
 obtain ⟨W3,hW3⟩:∃ W3,W2.alloc (.cells #[.slice none 0 0,.string ⟨#[]⟩,.int .i64 0,.slice none 0 0] 94)=W3:=⟨_,rfl⟩
 rw [hW3] at hx3 hb3
 rw [hs2] at hx3
 have hb13:Below W1.heap.size W1 W3:=hb2.trans (hb3.mono hb2.size)
 have HB3:=Lib.hid (hb1.trans (hb13.mono hb1.size))
 have HN3:=Lib.hid (hn1.kept hb13)
 have hx23:=hx2.kept hb3
 rw [hs1] at hx23
 have HX3:=Lib.hid hx23
 have HR3:=Lib.hid hx3
 have HM3:=Lib.hid (hm.keep HB3.out)
 have HP3:=Lib.hid (h.below HB3.out)
 have HU3:=Lib.hid (hu.keep HB3.out)
 obtain ⟨a,ha⟩:∃ a,ws[0]?=some a:=by
  cases ws with
  | nil=>rcases h0 with h0 | h0 <;> exact absurd h0 (by decide)
  | cons a r=>exact ⟨a,rfl⟩
 have hwd:wd ws 0=a:=wd_of ha
 obtain ⟨p,cp,rfl,hcap,hmx,hc⟩:=hu
 obtain ⟨n,hn⟩:∃ n,ws.length=n:=⟨_,rfl⟩
 by_cases hl:ws.length=2
 rotate_left
 ·have HE:Hid (lineE M S ws=5):=Lib.hid (by
   unfold lineE
   rcases h0 with h0 | h0
   ·rw [if_pos h0,if_neg hl]
   ·rw [if_neg (by rw [h0];exact tP_J.symm),if_pos h0,if_neg hl])
  rw [hn] at hl ⊢
  have hl':((n:Int) != 2)=true:=by rw [bne_iff_ne];omega
  obtain ⟨E,hE⟩:∃ E,lineE M S ws=E:=⟨_,rfl⟩
  rw [hE] at HE ⊢
  obtain ⟨v0,v1,v2,v3⟩:=four_v HX3.out.at0
  simp only [Nat.zero_add] at v0 v1 v2 v3
  clear hc hn hE hcap hmx hl hn1 hb1 hb2 hb3 hx2 hx3 hx23 hb13
  go_enter Tryz.func32,Tryz.ntmps32
  go_wp2_with (first
   | (refine wpList_store_el (E:=encV) rfl 94 (.tmp 6) (.tmp 20) rfl (w.heap.size+1+1) zeroV x 94 rfl rfl HR3.out (by kernel_rfl) ?_;intro w4 hx4 hg4;have HX4:=Lib.hid hx4;have HG4:=Lib.hid hg4;clear hx4 hg4)
   | fail)
  obtain ⟨d0,d1,d2,d3⟩:=four_v HX4.out.at0
  simp only [Nat.zero_add] at d0 d1 d2 d3
  have hbf:=HB3.out.grown HG4.out HB3.out.size (fun j hj=>by cases hj;omega)
  exact bodyPost_ret (v:=.tuple #[aggV x,.int .i64 5]) (by simp [results,Tryz.results32,go_sem,d0,d1,d2,d3]) rfl ⟨x,by rw [HE.out],hbf.mono hB,fun h=>by rw [HE.out] at h;cases h⟩
 obtain ⟨b,rfl⟩:∃ b,ws=[a,b]:=by
  match ws,hl,ha with
  | [a',b],_,ha=>cases ha;exact ⟨b,rfl⟩
 have hla:wd [a,b] 0=a:=rfl
 obtain ⟨g,o,rfl,k0⟩:=hc 0 a rfl
 obtain ⟨g',o',e1,k1⟩:=hc 1 b rfl
 cases e1
 rw [Nat.add_zero] at k0
 simp only [List.length_cons,List.length_nil,Nat.zero_add,Nat.reduceAdd] at hcap hmx ⊢
 have HNA:=Lib.hid (fun W=>rname_any b W (Nat.le_trans (hsz b (by simp)) (by decide)))
 obtain ⟨NM,hNM⟩:∃ N,nameL b.data.toList=N:=⟨_,rfl⟩
 simp only [hNM] at HNA
 have hk1:=(HB3.out.cell (World.block_lt_of_cell? w _ k1)).trans k1
 have hk0:=(HB3.out.cell (World.block_lt_of_cell? w _ k0)).trans k0
 have HK0:=Lib.hid hk0
 have HK1:=Lib.hid hk1
 obtain ⟨v0,v1,v2,v3⟩:=four_v HX3.out.at0
 simp only [Nat.zero_add] at v0 v1 v2 v3
 obtain ⟨n0,n1,n2,n3,n4,n5,n6,n7,n8⟩:=HN3.out
 have HFE:=Lib.hid (fun W h=>rfind_any (.slice pc M.chart.length cc) (.slice pf M.flows.length cf) (.slice pe M.ents.length ce) (.slice pl M.lines.length cl) M b W h)
 obtain ⟨C1,hC1⟩:∃ C,curO (G.findK Ent.code M.ents b)=C:=⟨_,rfl⟩
 obtain ⟨EI,hEI⟩:∃ C,(G.findK Ent.code M.ents b).isSome=C:=⟨_,rfl⟩
 simp only [hC1,hEI] at HFE
 have hbg:begE M b=if NM=false then 5 else if EI=false then 6 else 0:=by
  unfold begE nmB hasE
  rw [hNM,hEI]
 have HBG:=Lib.hid hbg
 obtain ⟨L,hL⟩:∃ L,lineE M S [a,b]=L:=⟨_,rfl⟩
 have HL:Hid (L=if a=tPackage then (if begE M b=0 then (if hadB S.had b=true then 7 else 0) else begE M b) else begE M b):=Lib.hid (by
  rw [←hL]
  unfold lineE
  rcases h0 with h0 | h0
  ·rw [hla] at h0
   rw [hla,if_pos h0,if_pos h0,if_pos (show [a,b].length=2 from rfl)];rfl
  ·rw [hla] at h0
   have h1:a≠tPackage:=by rw [h0];exact tP_J.symm
   rw [hla,if_neg h1,if_neg h1,if_pos h0,if_pos (show [a,b].length=2 from rfl)];rfl)
 have HV:Hid (lineV S [a,b]=if a=tPackage then ⟨b,0,S.had++[b],S.facts⟩ else ⟨b,1,S.had,S.facts⟩):=Lib.hid (by
  unfold lineV
  rcases h0 with h0 | h0
  ·rw [hla] at h0
   rw [hla,if_pos h0,if_pos h0];rfl
  ·rw [hla] at h0
   have h1:a≠tPackage:=by rw [h0];exact tP_J.symm
   rw [hla,if_neg h1,if_neg h1,if_pos h0];rfl)
 rw [hL]
 obtain ⟨S',hS'⟩:∃ T,lineV S [a,b]=T:=⟨_,rfl⟩
 rw [hS'] at HV ⊢
 have hwb:w.heap.size≤W3.heap.size:=HB3.out.size
 have HK0B:=Lib.hid k0
 have HK1B:=Lib.hid k1
 have hqp:=qPackage a
 have HGB:Hid (g < B):=Lib.hid (hlo g rfl)
 have HHH:=Lib.hid hh
 have HHB:=Lib.hid hB
 clear hlo hh
 clear hc hn ha hwd hl hsz hla k0 k1 hNM hC1 hEI hbg hL hS' hn1 hb1 hb2 hb3 hx2 hx3 hx23 hb13 h0 h hm hwb
 go_enter Tryz.func32,Tryz.ntmps32
 go_wp2_with fail
 refine (HNA.out _).mono ?_
 rintro en w' ⟨rfl,rfl⟩
 cases NM with
 | false =>
   have HE:Hid (L=5):=Lib.hid (by rw [HL.out,HBG.out];simp)
   go_wp2_with (first
    | (refine wpList_store_el (E:=encV) rfl 94 (.tmp 6) (.tmp 20) rfl (w.heap.size+1+1) zeroV x 94 rfl rfl HR3.out (by kernel_rfl) ?_;intro w4 hx4 hg4;have HX4:=Lib.hid hx4;have HG4:=Lib.hid hg4;clear hx4 hg4)
    | fail)
   obtain ⟨d0,d1,d2,d3⟩:=four_v HX4.out.at0
   simp only [Nat.zero_add] at d0 d1 d2 d3
   have hbf:=HB3.out.grown HG4.out HB3.out.size (fun j hj=>by cases hj;omega)
   exact bodyPost_ret (v:=.tuple #[aggV x,.int .i64 5]) (by simp [results,Tryz.results32,go_sem,d0,d1,d2,d3]) rfl ⟨x,by rw [HE.out],hbf.mono hB,fun h=>by rw [HE.out] at h;cases h⟩
 | true =>
 go_wp2_with fail
 have s0:=fun q:Past W3=>cell_past n0 q
 have s1:=fun q:Past W3=>cell_past n1 q
 have s2:=fun q:Past W3=>cell_past n2 q
 have s3:=fun q:Past W3=>cell_past n3 q
 have s4:=fun q:Past W3=>cell_past n4 q
 have s5:=fun q:Past W3=>cell_past n5 q
 have s6:=fun q:Past W3=>cell_past n6 q
 have s7:=fun q:Past W3=>cell_past n7 q
 have s8:=fun q:Past W3=>cell_past n8 q
 have t1:=fun q:Past W3=>cell_past hk1 q
 clear n0 n1 n2 n3 n4 n5 n6 n7 n8 hk0 hk1 v0 v1 v2 v3
 refine wp_region_plan (.one [0,1,2,3] 4 (.last [5,6,7,8,9])) (by kernel_rfl) (by kernel_rfl) (fun d _ _ _ _ h=>by cases d <;> exact h) ?_
 obtain ⟨wx,hwx⟩:∃ wx,W3.drew=wx:=⟨_,rfl⟩
 rw [hwx]
 have HDX:Hid (Below W3.heap.size W3 wx):=Lib.hid (by rw [←hwx];exact ⟨rfl,rfl,rfl,Nat.le_refl _,fun _ _=>rfl⟩)
 clear hwx
 simp only [wpPlan,pick,nth]
 repeat (go_big_quiet_step (fail))
 refine wpQuiet_nil ?_
 clear s0 s1 s2 s3 s4 s5 s6 s7 s8 t1
 intro K hK
 refine alone_want (by kernel_rfl) ?_
 go_big_op
 refine (HFE.out _ (HM3.out.keep HDX.out)).mono ?_
 rintro en w4 ⟨rfl,hb4⟩
 have HD4:=Lib.hid (HDX.out.trans (hb4.mono HDX.out.size))
 have HB4:=Lib.hid (HB3.out.trans (HD4.out.mono HB3.out.size))
 have HX4:=Lib.hid (HX3.out.kept HD4.out)
 have HR4:=Lib.hid (HR3.out.kept HD4.out)
 have HP4:=Lib.hid (HP3.out.below HD4.out)
 have HU4:=Lib.hid (HU3.out.keep HD4.out)
 have hk0:=(HD4.out.cell (World.block_lt_of_cell? _ _ HK0.out)).trans HK0.out
 have hk1:=(HD4.out.cell (World.block_lt_of_cell? _ _ HK1.out)).trans HK1.out
 refine hK _ _ (past_in HD4.out) ?_
 clear hK K hb4 HDX HD4 HB3 HX3 HR3 HM3 HP3 HU3 HN3 HK0 HK1
 repeat (go_big_quiet_step (fail))
 refine wpQuiet_nil ?_
 cases EI with
 | false =>
   have HE:Hid (L=6):=Lib.hid (by rw [HL.out,HBG.out];simp)
   obtain ⟨v0,v1,v2,v3⟩:=four_v HX4.out.at0
   simp only [Nat.zero_add] at v0 v1 v2 v3
   go_wp2_with (first
    | (refine wpList_store_el (E:=encV) rfl 94 (.tmp 6) (.tmp 31) rfl (w.heap.size+1+1) zeroV x 94 rfl rfl HR4.out (by kernel_rfl) ?_;intro w5 hx5 hg5;have HX5:=Lib.hid hx5;have HG5:=Lib.hid hg5;clear hx5 hg5)
    | fail)
   obtain ⟨d0,d1,d2,d3⟩:=four_v HX5.out.at0
   simp only [Nat.zero_add] at d0 d1 d2 d3
   have hbf:=HB4.out.grown HG5.out HB4.out.size (fun j hj=>by cases hj;omega)
   exact bodyPost_ret (v:=.tuple #[aggV x,.int .i64 6]) (by simp [results,Tryz.results32,go_sem,d0,d1,d2,d3]) rfl ⟨x,by rw [HE.out],hbf.mono hB,fun h=>by rw [HE.out] at h;cases h⟩
 | true =>
 have HBZ:Hid (begE M b=0):=Lib.hid (by rw [HBG.out];simp)
 have HX5:=Lib.hid (box_ent HX4.out b)
 have hfz1:=box_alive HX4.out 1
 have HX6:=Lib.hid (box_mrk HX5.out 1)
 have hfz2:=box_alive HX5.out 2
 have HG5:=Lib.hid (set_grown w4 (w.heap.size+1) 1 (.string b))
 have HP5:=Lib.hid (HP4.out.boxed HX4.out HG5.out)
 have HR5:=Lib.hid (box_beside HR4.out HG5.out (by omega))
 have HB5:=Lib.hid (HB4.out.setCell (p:=⟨w.heap.size+1,1,none⟩) (show w.heap.size≤w.heap.size+1 by omega) (.string b))
 have HG6:=Lib.hid (set_grown (w4.setCell ⟨w.heap.size+1,1,none⟩ (.string b)) (w.heap.size+1) 2 (.int .i64 1))
 have HP6:=Lib.hid (HP5.out.boxed HX5.out HG6.out)
 have HR6:=Lib.hid (box_beside HR5.out HG6.out (by omega))
 have HB6:=Lib.hid (HB5.out.setCell (p:=⟨w.heap.size+1,2,none⟩) (show w.heap.size≤w.heap.size+1 by omega) (.int .i64 1))
 obtain ⟨v0,v1,v2,v3⟩:=four_v HX4.out.at0
 obtain ⟨x0,x1,x2,x3⟩:=four_v HX5.out.at0
 obtain ⟨y0,y1,y2,y3⟩:=four_v HX6.out.at0
 simp only [Nat.zero_add] at v0 v1 v2 v3 x0 x1 x2 x3 y0 y1 y2 y3
 have j0:=(HB6.out.cell (World.block_lt_of_cell? _ _ HK0B.out)).trans HK0B.out
 have j1:=(HB6.out.cell (World.block_lt_of_cell? _ _ HK1B.out)).trans HK1B.out
 by_cases hap:a=tPackage
 rotate_left
 ·have HE:Hid (L=0):=Lib.hid (by rw [HL.out,if_neg hap,HBZ.out])
  have HV':Hid (S'=⟨b,1,S.had,S.facts⟩):=Lib.hid (by rw [HV.out,if_neg hap])
  rw [decide_eq_false hap] at hqp
  clear hap
  go_wp2_with (first
   | (refine wpList_store_el (E:=encV) rfl 94 (.tmp 6) (.tmp 58) rfl (w.heap.size+1+1) zeroV { x with ent:=b,mrk:=1 } 94 rfl rfl HR6.out (by kernel_rfl) ?_;intro wz hxz hgz;have HXZ:=Lib.hid hxz;have HGZ:=Lib.hid hgz;clear hxz hgz)
   | fail)
  obtain ⟨d0,d1,d2,d3⟩:=four_v HXZ.out.at0
  simp only [Nat.zero_add] at d0 d1 d2 d3
  have hbf:=HB6.out.grown HGZ.out HB6.out.size (fun j hj=>by cases hj;omega)
  have hpz:=HP6.out.boxed HR6.out HGZ.out
  exact bodyPost_ret (v:=.tuple #[aggV { x with ent:=b,mrk:=1 },.int .i64 0]) (by simp [results,Tryz.results32,go_sem,d0,d1,d2,d3]) rfl ⟨{ x with ent:=b,mrk:=1 },by rw [HE.out],hbf.mono hB,fun _=>by rw [HV'.out];exact ⟨hpz.facts,hpz.had,rfl,rfl⟩⟩
 have HL2:Hid (L=if hadB S.had b=true then 7 else 0):=Lib.hid (by rw [HL.out,if_pos hap,if_pos HBZ.out])
 have HV':Hid (S'=⟨b,0,S.had++[b],S.facts⟩):=Lib.hid (by rw [HV.out,if_pos hap])
 rw [decide_eq_true hap] at hqp
 clear hap
 have HX7:=Lib.hid (box_mrk HX6.out 0)
 have hfz3:=box_alive HX6.out 2
 have HG7:=Lib.hid (set_grown ((w4.setCell ⟨w.heap.size+1,1,none⟩ (.string b)).setCell ⟨w.heap.size+1,2,none⟩ (.int .i64 1)) (w.heap.size+1) 2 (.int .i64 0))
 have HP7:=Lib.hid (HP6.out.boxed HX6.out HG7.out)
 have HR7:=Lib.hid (box_beside HR6.out HG7.out (by omega))
 have HB7:=Lib.hid (HB6.out.setCell (p:=⟨w.heap.size+1,2,none⟩) (show w.heap.size≤w.heap.size+1 by omega) (.int .i64 0))
 go_wp2_with fail
 clear v0 v1 v2 v3 x0 x1 x2 x3 y0 y1 y2 y3 j0 j1
 obtain ⟨W7,hW7⟩:∃ W7,((w4.setCell ⟨w.heap.size+1,1,none⟩ (.string b)).setCell ⟨w.heap.size+1,2,none⟩ (.int .i64 1)).setCell ⟨w.heap.size+1,2,none⟩ (.int .i64 0)=W7:=⟨_,rfl⟩
 rw [hW7] at HX7 HP7 HR7 HB7
 rw [hW7]
 clear hW7 HX6 HG7 HX5 HX4 HP6 HP5 HP4 HR6 HR5 HR4 HB6 HB5 HB4 hfz1 hfz2 hfz3 HG5 HG6
 have j1:=(HB7.out.cell (World.block_lt_of_cell? _ _ HK1B.out)).trans HK1B.out
 obtain ⟨y0,y1,y2,y3⟩:=four_v HX7.out.at0
 simp only [Nat.zero_add] at y0 y1 y2 y3
 have r1:=fun q:Past W7=>cell_past j1 q
 have r3:=fun q:Past W7=>cell_past y3 q
 clear j1 y0 y1 y2 y3
 refine wp_region_plan (.one [0,1,2,3,4] 5 (.last [6])) (by kernel_rfl) (by kernel_rfl) (fun d _ _ _ _ h=>by cases d <;> exact h) ?_
 obtain ⟨wx,hwx⟩:∃ wx,W7.drew=wx:=⟨_,rfl⟩
 rw [hwx]
 have HDX:Hid (Below W7.heap.size W7 wx):=Lib.hid (by rw [←hwx];exact ⟨rfl,rfl,rfl,Nat.le_refl _,fun _ _=>rfl⟩)
 clear hwx
 simp only [wpPlan,pick,nth]
 repeat (go_big_quiet_step (fail))
 refine wpQuiet_nil ?_
 clear r1 r3
 intro K hK
 refine alone_want (by kernel_rfl) ?_
 go_big_op
 have HP8:=Lib.hid (HP7.out.below HDX.out)
 refine (rpick_had b _ S.had wx (strs_own HP8.out.had)).mono ?_
 rintro en w' ⟨⟨r,rfl,hr⟩,rfl⟩
 have HRB:=Lib.hid hr
 have HB8:=Lib.hid (HB7.out.trans (HDX.out.mono HB7.out.size))
 have HX8:=Lib.hid (HX7.out.kept HDX.out)
 have HR8:=Lib.hid (HR7.out.kept HDX.out)
 refine hK _ _ (past_in HDX.out) ?_
 clear hK K HDX hr HB7 HX7 HR7 HP7
 repeat (go_big_quiet_step (fail))
 refine wpQuiet_nil ?_
 by_cases hr0:0≤r
 ·have HE:Hid (L=7):=Lib.hid (by rw [HL2.out,if_pos (hadB_iff.2 (HRB.out.1 hr0))])
  obtain ⟨v0,v1,v2,v3⟩:=four_v HX8.out.at0
  simp only [Nat.zero_add] at v0 v1 v2 v3
  go_wp2_with (first
   | (refine wpList_store_el (E:=encV) rfl 94 (.tmp 6) (.tmp 49) rfl (w.heap.size+1+1) zeroV { x with ent:=b,mrk:=0 } 94 rfl rfl HR8.out (by kernel_rfl) ?_;intro wz hxz hgz;have HXZ:=Lib.hid hxz;have HGZ:=Lib.hid hgz;clear hxz hgz)
   | fail)
  obtain ⟨d0,d1,d2,d3⟩:=four_v HXZ.out.at0
  simp only [Nat.zero_add] at d0 d1 d2 d3
  have hbf:=HB8.out.grown HGZ.out HB8.out.size (fun j hj=>by cases hj;omega)
  exact bodyPost_ret (v:=.tuple #[aggV { x with ent:=b,mrk:=0 },.int .i64 7]) (by simp [results,Tryz.results32,go_sem,d0,d1,d2,d3]) rfl ⟨{ x with ent:=b,mrk:=0 },by rw [HE.out],hbf.mono hB,fun h=>by rw [HE.out] at h;cases h⟩
 have HE:Hid (L=0):=Lib.hid (by
  rw [HL2.out,if_neg]
  rw [Bool.not_eq_true,hadB_no]
  exact fun hm=>hr0 (HRB.out.2 hm))
 clear HRB HBZ HBG HL HL2 HV
 go_wp2_with fail
 have j1:=(HB8.out.cell (World.block_lt_of_cell? _ _ HK1B.out)).trans HK1B.out
 have hok:g≠w.heap.size+1∧some g≠x.vh.ownBlock:=⟨by have:=World.block_lt_of_cell? _ _ HK1B.out;simp only at this;omega,fun e0=>by
  have:=(HP8.out.had.lt _ e0.symm).1
  have:=HGB.out
  omega⟩
 have t4:=fun q:Leave (fun j=>j≠w.heap.size+1∧some j≠x.vh.ownBlock) wx=>cell_leave j1 hok q
 clear j1 hok
 refine wp_region_plan_if (S:=fun w'=>∃ q:Leave (fun j=>j≠w.heap.size+1∧some j≠x.vh.ownBlock) wx,w'=q.its) (.two [0,2,3,4] 1 (.one [] 5 (.one [] 6 (.one [7] 8 (.last [])))) 5 (.one [] 1 (.one [] 6 (.one [7] 8 (.last []))))) (by kernel_rfl) (by kernel_rfl) (fun d _ _ _ _ h=>by cases d <;> exact h) ⟨⟨wx.drew,fun _ _ _=>rfl⟩,rfl⟩ ?_
 obtain ⟨wz,hwz⟩:∃ wz,wx.drew=wz:=⟨_,rfl⟩
 rw [hwz]
 have HQ3:Hid (Below wx.heap.size wx wz):=Lib.hid (by rw [←hwz];exact ⟨rfl,rfl,rfl,Nat.le_refl _,fun _ _=>rfl⟩)
 have HSZ:Hid (wx.heap.size≤wz.heap.size):=Lib.hid HQ3.out.size
 clear hwz
 have HBQ:=Lib.hid (HB8.out.trans (HQ3.out.mono HB8.out.size))
 have hba:=(HBQ.out.mono HHB.out)
 have HBA:=Lib.hid (hba.alloc (by have:=hba.size;have:=HHB.out;omega) (.cells #[.string b] 9))
 have hbz:=(Below.refl wz.heap.size wz).alloc (Nat.le_refl _) (.cells #[.string b] 9)
 have HPZ:=Lib.hid ((HP8.out.below HQ3.out).below hbz)
 have HXQ:=Lib.hid (HX8.out.kept HQ3.out)
 have HXZ:=Lib.hid (HXQ.out.kept hbz)
 have HRZ:=Lib.hid ((HR8.out.kept HQ3.out).kept hbz)
 have HEL:Hid (ElAt encT (wz.alloc (.cells #[.string b] 9)) wz.heap.size 0 b):=Lib.hid (el_new encT wz b 9)
 have HWZ:Hid (w.heap.size+1 < wx.heap.size∧w.heap.size+1+1 < wx.heap.size):=Lib.hid ⟨HX8.out.lt,HR8.out.lt⟩
 obtain ⟨_,_,_,z3⟩:=four_v HXQ.out.at0
 obtain ⟨_,_,_,x3⟩:=four_v HXZ.out.at0
 simp only [Nat.zero_add] at z3 x3
 clear hba hbz
 simp only [wpPlan,pick,nth]
 repeat (go_big_quiet_step (fail))
 refine wpQuiet_nil ?_
 clear t4
 refine ⟨?_,?_⟩
 ·intro K hK
  refine alone_want (by kernel_rfl) ?_
  go_big_op
  refine hK _ _ (leave_in fun j _ hjl=>HQ3.out.block j hjl) ?_
  clear hK K
  refine wpQuiet_nil ?_
  intro K hK
  refine alone_want (by kernel_rfl) ?_
  go_big_op
  refine hK _ _ (leave_in fun j _ hjl=>(heap_alloc_old _ _ (by have:=HSZ.out;omega)).trans (HQ3.out.block j hjl)) ?_
  clear hK K
  refine wpQuiet_nil ?_
  intro K hK
  refine alone_want (by kernel_rfl) ?_
  refine wp_append_el (E:=encT) (.tmp 51) (.tmp 55) 67 9 rfl infoT B (.slice x.ph x.nh x.ch) S.had b wz.heap.size rfl HPZ.out.had rfl HEL.out (by have:=HBA.out.size;have:=HHB.out;omega) HHH.out ?_
  intro v2 wa hr2 hb2 hg2
  have HBW:=Lib.hid (HBA.out.trans hb2)
  have HG2:=Lib.hid hg2
  refine hK _ _ (leave_in fun j hj hjl=>?_) ?_
  ·rw [hg2.block j (by rw [World.size_alloc];have:=HSZ.out;omega) (fun e0=>hj.2 e0)]
   exact ((heap_alloc_old _ _ (by have:=HSZ.out;omega)).trans (HQ3.out.block j hjl))
  clear hK K hb2
  obtain ⟨p2,q2,m2,hv2⟩:=own_sl hr2
  subst hv2
  obtain ⟨hxa,hxb,hpb⟩:=had_put HPZ.out HXZ.out rfl hg2 hr2
  have HRA:=Lib.hid (box_append HRZ.out HPZ.out.had (by decide) hg2)
  have HRB:=Lib.hid (box_beside HRA.out (set_grown wa (w.heap.size+1) 3 (.slice p2 m2 q2)) (by omega))
  have HXB:=Lib.hid hxb
  have HPB:=Lib.hid hpb
  have fz:=box_alive hxa 3
  obtain ⟨_,_,_,w3⟩:=four_v hxa.at0
  simp only [Nat.zero_add] at w3
  clear hr2 hg2 hxa hxb hpb
  simp only [Act.put,List.setIfInBounds_toArray,List.set_cons_zero,List.set_cons_succ]
  repeat (go_big_quiet_step (fail))
  refine wpQuiet_nil ?_
  intro K hK
  refine alone_want (by kernel_rfl) ?_
  go_big_op
  refine hK _ _ (leave_in fun j hj hjl=>?_) ?_
  ·rw [Below.heap_setCell _ _ _ _ (fun e0=>hj.1 e0),HG2.out.block j (by rw [World.size_alloc];have:=HSZ.out;omega) (fun e0=>hj.2 e0)]
   exact ((heap_alloc_old _ _ (by have:=HSZ.out;omega)).trans (HQ3.out.block j hjl))
  clear hK K
  refine wpQuiet_nil ?_
  obtain ⟨v0,v1,v2,v3⟩:=four_v HXB.out.at0
  simp only [Nat.zero_add] at v0 v1 v2 v3
  clear w3 fz z3 x3
  go_wp2_with (first
   | (refine wpList_store_el (E:=encV) rfl 94 (.tmp 6) (.tmp 58) rfl (w.heap.size+1+1) zeroV { x with ent:=b,mrk:=0,ph:=p2,nh:=m2,ch:=q2 } 94 rfl rfl HRB.out (by kernel_rfl) ?_;intro wy hxz hgz;have HXY:=Lib.hid hxz;have HGY:=Lib.hid hgz;clear hxz hgz)
   | fail)
  obtain ⟨d0,d1,d2,d3⟩:=four_v HXY.out.at0
  simp only [Nat.zero_add] at d0 d1 d2 d3
  have hbs:=HBW.out.setCell (p:=⟨w.heap.size+1,3,none⟩) (show B≤w.heap.size+1 by have:=HHB.out;omega) (.slice p2 m2 q2)
  have hbf:=hbs.grown HGY.out (by have:=hbs.size;have:=HHB.out;omega) (fun j hj=>by cases hj;have:=HHB.out;omega)
  have hpz:=HPB.out.boxed HRB.out HGY.out
  exact bodyPost_ret (v:=.tuple #[aggV { x with ent:=b,mrk:=0,ph:=p2,nh:=m2,ch:=q2 },.int .i64 0]) (by simp [results,Tryz.results32,go_sem,d0,d1,d2,d3]) rfl ⟨{ x with ent:=b,mrk:=0,ph:=p2,nh:=m2,ch:=q2 },by rw [HE.out],hbf,fun _=>by rw [HV'.out];exact hpz⟩
 ·intro K hK
  refine alone_want (by kernel_rfl) ?_
  go_big_op
  refine hK _ _ (leave_in fun j _ hjl=>(heap_alloc_old _ _ (by have:=HSZ.out;omega)).trans (HQ3.out.block j hjl)) ?_
  clear hK K
  refine wpQuiet_nil ?_
  intro K hK
  refine alone_want (by kernel_rfl) ?_
  go_big_op
  refine hK _ _ (leave_in fun j _ hjl=>(heap_alloc_old _ _ (by have:=HSZ.out;omega)).trans (HQ3.out.block j hjl)) ?_
  clear hK K
  refine wpQuiet_nil ?_
  intro K hK
  refine alone_want (by kernel_rfl) ?_
  refine wp_append_el (E:=encT) (.tmp 51) (.tmp 55) 67 9 rfl infoT B (.slice x.ph x.nh x.ch) S.had b wz.heap.size rfl HPZ.out.had rfl HEL.out (by have:=HBA.out.size;have:=HHB.out;omega) HHH.out ?_
  intro v2 wa hr2 hb2 hg2
  have HBW:=Lib.hid (HBA.out.trans hb2)
  have HG2:=Lib.hid hg2
  refine hK _ _ (leave_in fun j hj hjl=>?_) ?_
  ·rw [hg2.block j (by rw [World.size_alloc];have:=HSZ.out;omega) (fun e0=>hj.2 e0)]
   exact ((heap_alloc_old _ _ (by have:=HSZ.out;omega)).trans (HQ3.out.block j hjl))
  clear hK K hb2
  obtain ⟨p2,q2,m2,hv2⟩:=own_sl hr2
  subst hv2
  obtain ⟨hxa,hxb,hpb⟩:=had_put HPZ.out HXZ.out rfl hg2 hr2
  have HRA:=Lib.hid (box_append HRZ.out HPZ.out.had (by decide) hg2)
  have HRB:=Lib.hid (box_beside HRA.out (set_grown wa (w.heap.size+1) 3 (.slice p2 m2 q2)) (by omega))
  have HXB:=Lib.hid hxb
  have HPB:=Lib.hid hpb
  have fz:=box_alive hxa 3
  obtain ⟨_,_,_,w3⟩:=four_v hxa.at0
  simp only [Nat.zero_add] at w3
  clear hr2 hg2 hxa hxb hpb
  simp only [Act.put,List.setIfInBounds_toArray,List.set_cons_zero,List.set_cons_succ]
  repeat (go_big_quiet_step (fail))
  refine wpQuiet_nil ?_
  intro K hK
  refine alone_want (by kernel_rfl) ?_
  go_big_op
  refine hK _ _ (leave_in fun j hj hjl=>?_) ?_
  ·rw [Below.heap_setCell _ _ _ _ (fun e0=>hj.1 e0),HG2.out.block j (by rw [World.size_alloc];have:=HSZ.out;omega) (fun e0=>hj.2 e0)]
   exact ((heap_alloc_old _ _ (by have:=HSZ.out;omega)).trans (HQ3.out.block j hjl))
  clear hK K
  refine wpQuiet_nil ?_
  obtain ⟨v0,v1,v2,v3⟩:=four_v HXB.out.at0
  simp only [Nat.zero_add] at v0 v1 v2 v3
  clear w3 fz z3 x3
  go_wp2_with (first
   | (refine wpList_store_el (E:=encV) rfl 94 (.tmp 6) (.tmp 58) rfl (w.heap.size+1+1) zeroV { x with ent:=b,mrk:=0,ph:=p2,nh:=m2,ch:=q2 } 94 rfl rfl HRB.out (by kernel_rfl) ?_;intro wy hxz hgz;have HXY:=Lib.hid hxz;have HGY:=Lib.hid hgz;clear hxz hgz)
   | fail)
  obtain ⟨d0,d1,d2,d3⟩:=four_v HXY.out.at0
  simp only [Nat.zero_add] at d0 d1 d2 d3
  have hbs:=HBW.out.setCell (p:=⟨w.heap.size+1,3,none⟩) (show B≤w.heap.size+1 by have:=HHB.out;omega) (.slice p2 m2 q2)
  have hbf:=hbs.grown HGY.out (by have:=hbs.size;have:=HHB.out;omega) (fun j hj=>by cases hj;have:=HHB.out;omega)
  have hpz:=HPB.out.boxed HRB.out HGY.out
  exact bodyPost_ret (v:=.tuple #[aggV { x with ent:=b,mrk:=0,ph:=p2,nh:=m2,ch:=q2 },.int .i64 0]) (by simp [results,Tryz.results32,go_sem,d0,d1,d2,d3]) rfl ⟨{ x with ent:=b,mrk:=0,ph:=p2,nh:=m2,ch:=q2 },by rw [HE.out],hbf,fun _=>by rw [HV'.out];exact hpz⟩
end Go.Proofs.YtdegffffcbhjbaaGreatDoor.Pk
end
section
namespace Go.Proofs.YtdegffffcbhjbaaGreatDoor
open Go.RowKit
theorem num_append (a b:List UInt8) (n:Nat):num n (a++b)=num (num n a) b:=by simp [num]
theorem num_take (s:ByteArray) (k:Nat) (h:k < s.size) (hd:digs s.data.toList=true):∃ d:Nat,s[k].toNat=48+d∧d≤9∧num 0 (s.data.toList.take (k+1))=num 0 (s.data.toList.take k) * 10+d:=by
 have h1:=digs_at _ k (by simpa using h) hd
 have h2:=(dig_iff _).1 h1
 have e:s.data.toList[k]'(by simpa using h)=s[k]:=rfl
 rw [e] at h2
 refine ⟨s[k].toNat - 48,by omega,by omega,?_⟩
 rw [List.take_succ_eq_append_getElem (by simpa using h),num_snoc]
 rfl
theorem num_over (s:ByteArray) (k:Nat) {b:Nat} (h:b < num 0 (s.data.toList.take k)):b < num 0 s.data.toList:=by
 have e:=num_append (s.data.toList.take k) (s.data.toList.drop k) 0
 rw [List.take_append_drop] at e
 have:=num_ge (s.data.toList.drop k) (num 0 (s.data.toList.take k))
 omega
def numV (n:Int):Int:=if fit n=true then n else 0
def numE (n:Int):Int:=if fit n=true then 0 else 2
theorem ret_two {a b c d:Int} (h1:a=b) (h2:c=d):Ending.returned (.tuple #[.int .i64 a,.int .i64 c])=.returned (.tuple #[.int .i64 b,.int .i64 d]):=by rw [h1,h2]
theorem neg_big {u:Nat} (h:9223372036854775808 < u):numV (-(u:Int))=0∧numE (-(u:Int))=2:=by
 have:fit (-(u:Int))=false:=(fit_no _).2 (by omega)
 simp [numV,numE,this]
theorem neg_ok {u:Nat} (h:u≤9223372036854775808):numV (-(u:Int))=-(u:Int)∧numE (-(u:Int))=0:=by
 have:fit (-(u:Int))=true:=(fit_iff _).2 (by omega)
 simp [numV,numE,this]
theorem pos_big {u:Nat} (h:9223372036854775808 < u):numV (u:Int)=0∧numE (u:Int)=2:=by
 have:fit (u:Int)=false:=(fit_no _).2 (by omega)
 simp [numV,numE,this]
theorem pos_neg (u:Nat):subV 0 (-(u:Int))=numV (u:Int)∧subE 0 (-(u:Int))=numE (u:Int):=by
 unfold subV subE numV numE
 rw [show (0:Int) - -(u:Int)=u by omega]
 exact ⟨rfl,rfl⟩
set_option maxHeartbeats 1000000 in
theorem rparse_no (s:ByteArray) (w:World) (hs:s.size≤maxLen) (hw:whole s.data.toList=false) :
 Calls Tryz.prog 57 #[.string s] w fun e w'=>e=.returned (.tuple #[.int .i64 0,.int .i64 5])∧w=w':=by
 have HM:=Lib.hid hs
 clear hs
 go_enter Tryz.func57,Tryz.ntmps57
 go_wp2_with (go_at_call 93;refine (form_any s _ HM.out).mono ?_;rintro e w' ⟨rfl,rfl⟩)
 go_ret2
 exact ⟨rfl,rfl⟩
set_option maxHeartbeats 1000000 in
theorem rparse_neg (s t:ByteArray) (w:World) (hs:s.size≤maxLen) (hp:0 < s.size) (hw:whole s.data.toList=true) (h45:((s[0].toNat:Int)==45)=true) (hx:s.extract 1 s.size=t) (hts:t.size≤maxLen) (hd:digs t.data.toList=true) :
 Calls Tryz.prog 57 #[.string s] w fun e w'=>e=.returned (.tuple #[.int .i64 (numV (-(num 0 t.data.toList:Int))),.int .i64 (numE (-(num 0 t.data.toList:Int)))])∧w=w':=by
 have HM:=Lib.hid hs
 have HD:=Lib.hid hd
 clear hd
 unfold maxLen at hs hts
 go_enter Tryz.func57,Tryz.ntmps57
 go_wp2_with (go_at_call 93;refine (form_any s _ HM.out).mono ?_;rintro e w' ⟨rfl,rfl⟩)
 go_loop [5,6] (fun n i=>∃ k:Nat,∃ m:Nat,k≤t.size∧i=.int .i64 k∧n=.int .i64 (-(m:Int))∧m≤9223372036854775808∧num 0 (t.data.toList.take k)=m) (fun _ i=>t.size - (intOf i).toNat)
 case atStart=>exact ⟨0,0,Nat.zero_le _,rfl,rfl,by omega,rfl⟩
 case round =>
  obtain ⟨k,m,hk,rfl,rfl,hm,hn⟩:=hrel
  have HN:=Lib.hid hn
  clear hn
  by_cases hlt:k < t.size
  ·obtain ⟨d,hd1,hd2,hd3⟩:=num_take t k hlt HD.out
   have c0:(t[k].toNat:Int) - 48=(d:Int):=by omega
   have c1:(48:Int)≤(t[k].toNat:Int):=by omega
   have c2:(t[k].toNat:Int)≤57:=by omega
   have HD1:=Lib.hid hd1
   have HD3:=Lib.hid (hd3.trans (by rw [HN.out]))
   clear hd1 hd3
   by_cases hov:m * 10+d≤9223372036854775808
   ·have t1:(-922337203685477580:Int)≤-(m:Int):=by omega
    have t2:(-9223372036854775808:Int)+(d:Int)≤-(m:Int) * 10:=by omega
    go_wp2
    go_round
    case rel=>exact ⟨k+1,m * 10+d,by omega,by go_num,by go_num,hov,HD3.out⟩
    case measure=>simp [intOf];omega
   ·have hbig:9223372036854775808 < num 0 t.data.toList:=num_over t (k+1) (by rw [HD3.out];omega)
    have HBIG:=Lib.hid hbig
    clear hbig
    by_cases hfst:922337203685477580 < m
    ·have t1:-(m:Int) < -922337203685477580:=by omega
     go_wp2
     go_ret2
     exact ⟨ret_two (neg_big HBIG.out).1.symm (neg_big HBIG.out).2.symm,rfl⟩
    ·have t1:(-922337203685477580:Int)≤-(m:Int):=by omega
     have t2:-(m:Int) * 10 < (-9223372036854775808:Int)+(d:Int):=by omega
     go_wp2
     go_ret2
     exact ⟨ret_two (neg_big HBIG.out).1.symm (neg_big HBIG.out).2.symm,rfl⟩
  ·have hall:num 0 t.data.toList=m:=by
    have:=HN.out
    rwa [List.take_of_length_le (by simp;omega)] at this
   have HALL:=Lib.hid hall
   clear hall
   go_wp2
   go_ret2
   rw [HALL.out]
   exact ⟨ret_two (neg_ok hm).1.symm (neg_ok hm).2.symm,rfl⟩
set_option maxHeartbeats 1000000 in
theorem rparse_pos (s:ByteArray) (w:World) (hs:s.size≤maxLen) (hp:0 < s.size) (hw:whole s.data.toList=true) (h45:((s[0].toNat:Int)==45)=false) (hd:digs s.data.toList=true) :
 Calls Tryz.prog 57 #[.string s] w fun e w'=>e=.returned (.tuple #[.int .i64 (numV (num 0 s.data.toList:Int)),.int .i64 (numE (num 0 s.data.toList:Int))])∧w=w':=by
 have HM:=Lib.hid hs
 have HD:=Lib.hid hd
 clear hd
 unfold maxLen at hs
 go_enter Tryz.func57,Tryz.ntmps57
 go_wp2_with (go_at_call 93;refine (form_any s _ HM.out).mono ?_;rintro e w' ⟨rfl,rfl⟩)
 go_loop [5,6] (fun n i=>∃ k:Nat,∃ m:Nat,k≤s.size∧i=.int .i64 k∧n=.int .i64 (-(m:Int))∧m≤9223372036854775808∧num 0 (s.data.toList.take k)=m) (fun _ i=>s.size - (intOf i).toNat)
 case atStart=>exact ⟨0,0,Nat.zero_le _,rfl,rfl,by omega,rfl⟩
 case round =>
  obtain ⟨k,m,hk,rfl,rfl,hm,hn⟩:=hrel
  have HN:=Lib.hid hn
  clear hn
  by_cases hlt:k < s.size
  ·obtain ⟨d,hd1,hd2,hd3⟩:=num_take s k hlt HD.out
   have c0:(s[k].toNat:Int) - 48=(d:Int):=by omega
   have c1:(48:Int)≤(s[k].toNat:Int):=by omega
   have c2:(s[k].toNat:Int)≤57:=by omega
   have HD1:=Lib.hid hd1
   have HD3:=Lib.hid (hd3.trans (by rw [HN.out]))
   clear hd1 hd3
   by_cases hov:m * 10+d≤9223372036854775808
   ·have t1:(-922337203685477580:Int)≤-(m:Int):=by omega
    have t2:(-9223372036854775808:Int)+(d:Int)≤-(m:Int) * 10:=by omega
    go_wp2
    go_round
    case rel=>exact ⟨k+1,m * 10+d,by omega,by go_num,by go_num,hov,HD3.out⟩
    case measure=>simp [intOf];omega
   ·have hbig:9223372036854775808 < num 0 s.data.toList:=num_over s (k+1) (by rw [HD3.out];omega)
    have HBIG:=Lib.hid hbig
    clear hbig
    by_cases hfst:922337203685477580 < m
    ·have t1:-(m:Int) < -922337203685477580:=by omega
     go_wp2
     go_ret2
     exact ⟨ret_two (pos_big HBIG.out).1.symm (pos_big HBIG.out).2.symm,rfl⟩
    ·have t1:(-922337203685477580:Int)≤-(m:Int):=by omega
     have t2:-(m:Int) * 10 < (-9223372036854775808:Int)+(d:Int):=by omega
     go_wp2
     go_ret2
     exact ⟨ret_two (pos_big HBIG.out).1.symm (pos_big HBIG.out).2.symm,rfl⟩
  ·have hall:num 0 s.data.toList=m:=by
    have:=HN.out
    rwa [List.take_of_length_le (by simp;omega)] at this
   have HALL:=Lib.hid hall
   clear hall
   go_wp2_with (go_at_call 94;refine (rneg_any _ _ ⟨by omega,by omega⟩).mono ?_;rintro e w' ⟨rfl,rfl⟩)
   go_ret2
   rw [HALL.out]
   exact ⟨ret_two (pos_neg m).1 (pos_neg m).2,rfl⟩
theorem parse_of_val (l:List UInt8) (h:whole l=true):parseV l=numV (val l)∧parseE l=numE (val l):=by
 simp [parseV,parseE,numV,numE,h]
theorem crnum_any (s:ByteArray) (w:World) (hs:s.size≤maxLen) :
 Calls Tryz.prog 57 #[.string s] w fun e w'=>e=.returned (.tuple #[.int .i64 (parseV s.data.toList),.int .i64 (parseE s.data.toList)])∧w=w':=by
 cases hw:whole s.data.toList with
 | false =>
   have e1:parseV s.data.toList=0:=by simp [parseV,hw]
   have e2:parseE s.data.toList=5:=by simp [parseE,hw]
   rw [e1,e2]
   exact rparse_no s w hs hw
 | true =>
   rw [(parse_of_val _ hw).1,(parse_of_val _ hw).2]
   obtain ⟨⟨l⟩⟩:=s
   have hl:l.length≤maxLen:=hs
   have hw':whole l=true:=hw
   show Calls Tryz.prog 57 #[.string ⟨l.toArray⟩] w fun e w'=>e=.returned (.tuple #[.int .i64 (numV (val l)),.int .i64 (numE (val l))])∧w=w'
   match l,hl,hw' with
   | [],_,hw'=>cases hw'
   | c::r,hl,hw' =>
     simp only [List.length_cons] at hl
     have h1:(⟨(c::r).toArray⟩:ByteArray).size≤maxLen:=by rw [size_of];simp only [List.length_cons];omega
     have h2:0 < (⟨(c::r).toArray⟩:ByteArray).size:=by rw [size_of];simp
     by_cases h45:c=45
     ·subst h45
      have hx:(⟨(45::r).toArray⟩:ByteArray).extract 1 (⟨(45::r).toArray⟩:ByteArray).size=⟨r.toArray⟩:=by
       rw [size_of];exact extract_tail 45 r
      have hd:digs r=true:=by
       have hp:=hw'
       rw [whole_minus] at hp
       obtain ⟨c',r',e,_,hd⟩:=plainNum_cons hp
       rw [e];exact hd
      exact rparse_neg ⟨(45::r).toArray⟩ ⟨r.toArray⟩ w h1 h2 hw' rfl hx (by rw [size_of];omega) hd
     ·rw [val_other r h45]
      exact rparse_pos ⟨(c::r).toArray⟩ w h1 h2 hw' (beq_lit (n:=45) (toNat_ne h45)) (whole_digs h45 hw')
end Go.Proofs.YtdegffffcbhjbaaGreatDoor
end
