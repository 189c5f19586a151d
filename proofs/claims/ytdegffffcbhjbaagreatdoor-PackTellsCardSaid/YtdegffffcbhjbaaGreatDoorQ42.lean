/- PkDocOne -/
import Derived.Test.YtdegffffcbhjbaaGreatDoorQ41
namespace Go.Proofs.YtdegffffcbhjbaaGreatDoor.Pk
open Go.RowKit Go.Maps Go.Proofs.YtdegffffcbhjbaaGreatDoor.Un
theorem own_boxV {α:Type} {E:Enc α} {w:World} {B b:Nat} {t:TypeId} {a:α} (h:w.ownsRow B t E.k (.slice (some ⟨b,0,none⟩) 1 1) 1 (flat E [a])):BoxE E w b t a:=by
 rcases h.2 with ⟨h',_⟩ | ⟨g,cap,cur,e,_,hg,_,_,hsz,htk⟩
 ·cases h'
 ·cases e
  unfold BoxE
  rw [hg]
  have:cur.toList=E.cs a:=by
   rw [flat_one] at htk
   rw [←htk,List.take_of_length_le (by rw [Array.length_toList,hsz];exact Nat.le_refl _)]
  rw [←this]
theorem wp_store_boxV {α:Type} {E:Enc α} {P:Program} {o:Oper} {a:Act} {w:World} {K:Act→World→Prop} {Q:Exit→Act→World→Prop} (ty:TypeId) (x y:Operand) (ho:o.op=.store ty x y)
 (g:Nat) (t:TypeId) (z0 z:α) (hx:a.eval x=.pointer (some ⟨g,0,none⟩)) (hy:a.eval y=.agg (E.cs z).toArray) (hg:BoxE E w g t z0) (hti:(P.info? ty).map (·.size)=some E.k)
 (h:∀ w',BoxE E w' g t z→w.grownBy w' (some g)→K (a.put o.dst undef) w'):o.wp P a w K Q :=
 Fa.wp_store_part ty x y ho g g 1 1 t [z0] 0 z (by rw [Nat.zero_mul];exact hx) hy (Fa.box_own hg (Nat.le_refl _)) rfl (by omega) hti (fun w' h1 h2=>h w' (own_boxV h1) h2)
theorem box_kp {W:World} {g:Nat} {t:TypeId} {k:Fa.Key} (h:BoxE Fa.encK W g t k) (u:ByteArray):BoxE Fa.encK (W.setCell ⟨g,3,none⟩ (.string u)) g t ⟨k.e,k.a,k.f,u,k.m⟩:=by
 unfold BoxE at h ⊢
 rw [Joins.block_setCell h]
 rfl
theorem PD.beside {α:Type} {E:Enc α} {W W':World} {g B:Nat} {t:TypeId} {a:α} {x:PV} {S:St} (h:PD W B x S) (hb:BoxE E W g t a) (h1:t≠53) (h2:t≠9) (hg:W.grownBy W' (some g)):PD W' B x S :=
 ⟨h.facts.kept hg (boxE_apart hb h.facts h1),h.had.kept hg (boxE_apart hb h.had h2),h.ent,h.mrk⟩
theorem lineE_one {M:Mast} {S:St} {ws:List ByteArray} (h1:wd ws 0≠tPackage) (h2:wd ws 0≠tJournal):lineE M S ws=if wd ws 0=tFact∧ws.length=5 then factE M S ws else 5:=by
 unfold lineE
 rw [if_neg h1,if_neg h2]
 by_cases h3:wd ws 0=tFact
 ·rw [if_pos h3]
  by_cases h4:ws.length=5
  ·rw [if_pos h4,if_pos ⟨h3,h4⟩]
  ·rw [if_neg h4,if_neg (fun h=>h4 h.2)]
 ·rw [if_neg h3,if_neg (fun h=>h3 h.1)]
theorem lineV_one {S:St} {ws:List ByteArray} (h1:wd ws 0≠tPackage) (h2:wd ws 0≠tJournal):lineV S ws=⟨S.ent,S.mrk,S.had,S.facts++[factV S ws]⟩:=by
 unfold lineV
 rw [if_neg h1,if_neg h2]
set_option maxRecDepth 100000 in
set_option maxHeartbeats 32000000 in
theorem rone_any (u:Value) (ws:List ByteArray) (w:World) (B:Nat) (c f e l:Value) (M:Mast) (S:St) (x:PV) (hu:StrsV w u ws) (h0:0 < ws.length) (h1:wd ws 0≠tPackage) (h2:wd ws 0≠tJournal) (hne:∀ y∈ws,y≠emp) (hsz:∀ y∈ws,y.size≤1000000) (hB:B≤w.heap.size) (hm:MastIn w c f e l M) (hz:hasE M emp=false) (hfl:S.facts.length≤1000000) (h:PD w B x S) :
 Calls Tryz.prog 33 #[aggM c f e l M,aggV x,u] w (TurnTold w B (lineV S ws) (lineE M S ws)):=by
 obtain ⟨pc,cc,pf,cf,pe,ce,pl,cl,rfl,rfl,rfl,rfl⟩:=shapes hm
 have hn1:=nine_new w (.slice pc M.chart.length cc) (.slice pf M.flows.length cf) (.slice pe M.ents.length ce) (.slice pl M.lines.length cl) M 36
 have hb1:=(Below.refl w.heap.size w).alloc (Nat.le_refl _) (.cells (cellsM (.slice pc M.chart.length cc) (.slice pf M.flows.length cf) (.slice pe M.ents.length ce) (.slice pl M.lines.length cl) M) 36)
 obtain ⟨W1,hW1⟩:∃ W1,w.alloc (.cells (cellsM (.slice pc M.chart.length cc) (.slice pf M.flows.length cf) (.slice pe M.ents.length ce) (.slice pl M.lines.length cl) M) 36)=W1:=⟨_,rfl⟩
 have hs1:W1.heap.size=w.heap.size+1:=by rw [←hW1,World.size_alloc]
 rw [hW1] at hb1 hn1
 have hx2:BoxE encV (W1.alloc (.cells (vCells x) 94)) W1.heap.size 94 x:=BoxE.new encV W1 x 94
 have hb2:=(Below.refl W1.heap.size W1).alloc (Nat.le_refl _) (.cells (vCells x) 94)
 obtain ⟨W2,hW2⟩:∃ W2,W1.alloc (.cells (vCells x) 94)=W2:=⟨_,rfl⟩
 have hs2:W2.heap.size=w.heap.size+1+1:=by rw [←hW2,World.size_alloc,hs1]
 rw [hW2] at hx2 hb2
 have hx3:BoxE encV (W2.alloc (.cells #[.slice none 0 0,.string ⟨#[]⟩,.int .i64 0,.slice none 0 0] 94)) W2.heap.size 94 zeroV:=BoxE.new encV W2 zeroV 94
 have hb3:=(Below.refl W2.heap.size W2).alloc (Nat.le_refl _) (.cells #[.slice none 0 0,.string ⟨#[]⟩,.int .i64 0,.slice none 0 0] 94)
 obtain ⟨W3,hW3⟩:∃ W3,W2.alloc (.cells #[.slice none 0 0,.string ⟨#[]⟩,.int .i64 0,.slice none 0 0] 94)=W3:=⟨_,rfl⟩
 rw [hW3] at hx3 hb3
 rw [hs2] at hx3
 have hb13:Below W1.heap.size W1 W3:=hb2.trans (hb3.mono hb2.size)
 have HB3:=Lib.hid (hb1.trans (hb13.mono hb1.size))
 have HN3:=Lib.hid (hn1.kept hb13)
 have hx23:=hx2.kept hb3
 rw [hs1] at hx23
 have HX3:=Lib.hid hx23
 have HR3:=Lib.hid hx3
 have HM3:=Lib.hid (hm.keep HB3.out)
 have HM0:=Lib.hid hm
 have HN1:=Lib.hid hn1
 have HB13:=Lib.hid hb13
 have HP3:=Lib.hid (h.below HB3.out)
 have HU3:=Lib.hid (hu.keep HB3.out)
 obtain ⟨t,ht⟩:∃ a,ws[0]?=some a:=⟨_,List.getElem?_eq_getElem h0⟩
 have hwd:wd ws 0=t:=wd_of ht
 have hqf:=qFact t
 have HE1:=Lib.hid (lineE_one (M:=M) (S:=S) h1 h2)
 have HV1:=Lib.hid (lineV_one (S:=S) h1 h2)
 obtain ⟨p,cp,rfl,hcap,hmx,hc⟩:=hu
 obtain ⟨g,o,rfl,k0⟩:=hc 0 t ht
 rw [Nat.add_zero] at k0
 have j0:=(HB3.out.cell (World.block_lt_of_cell? w _ k0)).trans k0
 obtain ⟨v0,v1,v2,v3⟩:=four_v HX3.out.at0
 simp only [Nat.zero_add] at v0 v1 v2 v3
 obtain ⟨n,hn⟩:∃ n,ws.length=n:=⟨_,rfl⟩
 have hlin:n≤maxLen:=by rw [←hn];exact hmx
 unfold maxLen at hlin
 have hnp:0 < n:=by omega
 by_cases hft:t=tFact∧ws.length=5
 rotate_left
 ·have HE:Hid (lineE M S ws=5):=Lib.hid (by rw [HE1.out,hwd,if_neg hft])
  obtain ⟨E,hE⟩:∃ E,lineE M S ws=E:=⟨_,rfl⟩
  rw [hE] at HE ⊢
  rw [hn] at hft ⊢
  by_cases hf1:t=tFact
  ·have hl':((n:Int) != 5)=true:=by rw [bne_iff_ne];intro h;exact hft ⟨hf1,by omega⟩
   rw [decide_eq_true hf1] at hqf
   clear hft hf1 hc hn hE hcap hmx hn1 hb1 hb2 hb3 hx2 hx3 hx23 hb13
   go_enter Tryz.func33,Tryz.ntmps33
   go_wp2_with (first
    | (refine wpList_store_el (E:=encV) rfl 94 (.tmp 6) (.tmp 41) rfl (w.heap.size+1+1) zeroV x 94 rfl rfl HR3.out (by kernel_rfl) ?_;intro wz hxz hgz;have HXZ:=Lib.hid hxz;have HGZ:=Lib.hid hgz;clear hxz hgz)
    | fail)
   obtain ⟨d0,d1,d2,d3⟩:=four_v HXZ.out.at0
   simp only [Nat.zero_add] at d0 d1 d2 d3
   have hbf:=HB3.out.grown HGZ.out HB3.out.size (fun j hj=>by cases hj;omega)
   exact bodyPost_ret (v:=.tuple #[aggV x,.int .i64 5]) (by simp [results,Tryz.results33,go_sem,d0,d1,d2,d3]) rfl ⟨x,by rw [HE.out],hbf.mono hB,fun h=>by rw [HE.out] at h;cases h⟩
  ·rw [decide_eq_false hf1] at hqf
   clear hft hf1 hc hn hE hcap hmx hn1 hb1 hb2 hb3 hx2 hx3 hx23 hb13
   go_enter Tryz.func33,Tryz.ntmps33
   go_wp2_with (first
    | (refine wpList_store_el (E:=encV) rfl 94 (.tmp 6) (.tmp 41) rfl (w.heap.size+1+1) zeroV x 94 rfl rfl HR3.out (by kernel_rfl) ?_;intro wz hxz hgz;have HXZ:=Lib.hid hxz;have HGZ:=Lib.hid hgz;clear hxz hgz)
    | fail)
   obtain ⟨d0,d1,d2,d3⟩:=four_v HXZ.out.at0
   simp only [Nat.zero_add] at d0 d1 d2 d3
   have hbf:=HB3.out.grown HGZ.out HB3.out.size (fun j hj=>by cases hj;omega)
   exact bodyPost_ret (v:=.tuple #[aggV x,.int .i64 5]) (by simp [results,Tryz.results33,go_sem,d0,d1,d2,d3]) rfl ⟨x,by rw [HE.out],hbf.mono hB,fun h=>by rw [HE.out] at h;cases h⟩
 obtain ⟨hf1,hl⟩:=hft
 rw [decide_eq_true hf1] at hqf
 obtain ⟨a,b,q,am,rfl⟩:∃ a b q am,ws=[t,a,b,q,am]:=by
  match ws,hl,ht with
  | [t',a,b,q,am],_,ht=>cases ht;exact ⟨a,b,q,am,rfl⟩
 obtain rfl:t=tFact:=hf1
 have HE2:Hid (lineE M S [tFact,a,b,q,am]=factE M S [tFact,a,b,q,am]):=Lib.hid (by rw [HE1.out,if_pos ⟨rfl,rfl⟩])
 obtain ⟨g',o',e1,k1⟩:=hc 1 a rfl
 cases e1
 obtain ⟨g',o',e1,k2⟩:=hc 2 b rfl
 cases e1
 obtain ⟨g',o',e1,k3⟩:=hc 3 q rfl
 cases e1
 obtain ⟨g',o',e1,k4⟩:=hc 4 am rfl
 cases e1
 have HK1:=Lib.hid k1
 have HK2:=Lib.hid k2
 have HK3:=Lib.hid k3
 have HK4:=Lib.hid k4
 simp only [List.length_cons,List.length_nil,Nat.zero_add,Nat.reduceAdd] at hcap hmx ⊢
 have j1:=(HB3.out.cell (World.block_lt_of_cell? w _ k1)).trans k1
 have j2:=(HB3.out.cell (World.block_lt_of_cell? w _ k2)).trans k2
 obtain ⟨EN,hEN⟩:∃ EN,S.ent=EN:=⟨_,rfl⟩
 obtain ⟨MK,hMK⟩:∃ MK,S.mrk=MK:=⟨_,rfl⟩
 have hxe:x.ent=EN:=by rw [h.ent,hEN]
 have hxm:x.mrk=MK:=by rw [h.mrk,hMK]
 obtain ⟨AV,hAV⟩:∃ AV,parseV am.data.toList=AV:=⟨_,rfl⟩
 obtain ⟨AE,hAE⟩:∃ AE,parseE am.data.toList=AE:=⟨_,rfl⟩
 have HCN:=Lib.hid (fun W=>crnum_any am W (Nat.le_trans (hsz am (by simp)) (by decide)))
 simp only [hAV,hAE] at HCN
 have HNA:=Lib.hid (fun W=>rname_any a W (Nat.le_trans (hsz a (by simp)) (by decide)))
 have HNB:=Lib.hid (fun W=>rname_any b W (Nat.le_trans (hsz b (by simp)) (by decide)))
 have HNQ:=Lib.hid (fun W=>rname_any q W (Nat.le_trans (hsz q (by simp)) (by decide)))
 obtain ⟨NA,hNA⟩:∃ N,nameL a.data.toList=N:=⟨_,rfl⟩
 obtain ⟨NB,hNB⟩:∃ N,nameL b.data.toList=N:=⟨_,rfl⟩
 obtain ⟨NQ,hNQ⟩:∃ N,nameL q.data.toList=N:=⟨_,rfl⟩
 simp only [hNA] at HNA
 simp only [hNB] at HNB
 simp only [hNQ] at HNQ
 have hqd:=qDash q
 have hqne:q≠emp:=hne q (by simp)
 have HEE:Hid (factE M S [tFact,a,b,q,am]=if (decide (EN=emp) || !(NA && NB && (decide (q=tDash) || NQ)))=true then 5 else if AE=0 then checkE M ⟨EN,a,b,parB q,MK⟩ else AE):=Lib.hid (by
  unfold factE
  have hK:keyF S [tFact,a,b,q,am]=⟨EN,a,b,parB q,MK⟩:=by rw [←hEN,←hMK];rfl
  rw [hK,hEN,show wd [tFact,a,b,q,am] 4=am from rfl,hAE]
  have hNK:namedK ⟨EN,a,b,parB q,MK⟩=(NA && NB && (decide (q=tDash) || NQ)):=by
   unfold namedK nmB isP parB
   dsimp only
   rw [hNA,hNB]
   by_cases hd:q=tDash
   ·rw [if_pos hd];simp [hd]
   ·rw [if_neg hd,hNQ];simp [hd,hqne]
  rw [hNK])
 have HFV:Hid (factV S [tFact,a,b,q,am]=⟨⟨EN,a,b,parB q,MK⟩,AV⟩):=Lib.hid (by unfold factV;rw [show wd [tFact,a,b,q,am] 4=am from rfl,hAV,←hEN,←hMK];rfl)
 obtain ⟨L,hL⟩:∃ L,lineE M S [tFact,a,b,q,am]=L:=⟨_,rfl⟩
 rw [hL] at HE2 ⊢
 obtain ⟨S',hS'⟩:∃ T,lineV S [tFact,a,b,q,am]=T:=⟨_,rfl⟩
 rw [hS'] at HV1 ⊢
 have HCK:=Lib.hid (fun W h=>rcheck_any (.slice pc M.chart.length cc) (.slice pf M.flows.length cf) (.slice pe M.ents.length ce) (.slice pl M.lines.length cl) M ⟨⟨EN,a,b,parB q,MK⟩,AV⟩ W h hz)
 obtain ⟨CE,hCE⟩:∃ C,checkE M (⟨⟨EN,a,b,parB q,MK⟩,AV⟩:Fa.Fact).key=C:=⟨_,rfl⟩
 simp only [hCE] at HCK
 have HEF:Hid (L=if (decide (EN=emp) || !(NA && NB && (decide (q=tDash) || NQ)))=true then 5 else if AE=0 then CE else AE):=Lib.hid (by rw [HE2.out,HEE.out,←hCE])
 have HB:=Lib.hid hB
 have HFL:=Lib.hid hfl
 have HXE:=Lib.hid hxe
 have HXM:=Lib.hid hxm
 rw [hxe] at v1
 rw [hxm] at v2
 clear hc hn ht hwd hl k0 k1 k2 k3 k4 hEN hMK hxe hxm hAV hAE hNA hNB hNQ hL hS' hCE hn1 hb1 hb2 hb3 hx2 hx3 hx23 hb13 h h1 h2 hm hne hsz hz hfl hlin hnp HE1 HE2 HEE h0 hqne
 by_cases hen:EN=emp
 ·have hq:EN.toList.isEmpty=true:=by subst hen;rw [ByteArray.toList_eq];rfl
  have HE:Hid (L=5):=Lib.hid (by rw [HEF.out,if_pos (by simp [hen])])
  clear hen
  go_enter Tryz.func33,Tryz.ntmps33
  rw [←HXE.out] at v1 hq
  rw [←HXM.out] at v2
  go_wp2_with (first
   | (refine wpList_store_el (E:=encV) rfl 94 (.tmp 6) (.tmp 41) rfl (w.heap.size+1+1) zeroV x 94 rfl rfl HR3.out (by kernel_rfl) ?_;intro wz hxz hgz;have HXZ:=Lib.hid hxz;have HGZ:=Lib.hid hgz;clear hxz hgz)
   | fail)
  obtain ⟨d0,d1,d2,d3⟩:=four_v HXZ.out.at0
  simp only [Nat.zero_add] at d0 d1 d2 d3
  have hbf:=HB3.out.grown HGZ.out HB3.out.size (fun j hj=>by cases hj;omega)
  exact bodyPost_ret (v:=.tuple #[aggV x,.int .i64 5]) (by simp [results,Tryz.results33,go_sem,d0,d1,d2,d3]) rfl ⟨x,by rw [HE.out],hbf.mono hB,fun h=>by rw [HE.out] at h;cases h⟩
 have hq:EN.toList.isEmpty=false:=by
  have:=(neB_iff EN).2 hen
  unfold neB at this
  simpa using this
 have HEG:Hid (L=if (!(NA && NB && (decide (q=tDash) || NQ)))=true then 5 else if AE=0 then CE else AE):=Lib.hid (by rw [HEF.out,decide_eq_false hen,Bool.false_or])
 clear hen
 go_enter Tryz.func33,Tryz.ntmps33
 go_wp2_with fail
 refine (HNA.out _).mono ?_
 rintro en w' ⟨rfl,rfl⟩
 cases NA with
 | false =>
   have HE:Hid (L=5):=Lib.hid (by rw [HEG.out];simp)
   rw [←HXE.out] at v1
   rw [←HXM.out] at v2
   go_wp2_with (first
    | (refine wpList_store_el (E:=encV) rfl 94 (.tmp 6) (.tmp 41) rfl (w.heap.size+1+1) zeroV x 94 rfl rfl HR3.out (by kernel_rfl) ?_;intro wz hxz hgz;have HXZ:=Lib.hid hxz;have HGZ:=Lib.hid hgz;clear hxz hgz)
    | fail)
   obtain ⟨d0,d1,d2,d3⟩:=four_v HXZ.out.at0
   simp only [Nat.zero_add] at d0 d1 d2 d3
   have hbf:=HB3.out.grown HGZ.out HB3.out.size (fun j hj=>by cases hj;omega)
   exact bodyPost_ret (v:=.tuple #[aggV x,.int .i64 5]) (by simp [results,Tryz.results33,go_sem,d0,d1,d2,d3]) rfl ⟨x,by rw [HE.out],hbf.mono hB,fun h=>by rw [HE.out] at h;cases h⟩
 | true =>
 go_wp2_with fail
 refine (HNB.out _).mono ?_
 rintro en w' ⟨rfl,rfl⟩
 cases NB with
 | false =>
   have HE:Hid (L=5):=Lib.hid (by rw [HEG.out];simp)
   rw [←HXE.out] at v1
   rw [←HXM.out] at v2
   go_wp2_with (first
    | (refine wpList_store_el (E:=encV) rfl 94 (.tmp 6) (.tmp 41) rfl (w.heap.size+1+1) zeroV x 94 rfl rfl HR3.out (by kernel_rfl) ?_;intro wz hxz hgz;have HXZ:=Lib.hid hxz;have HGZ:=Lib.hid hgz;clear hxz hgz)
    | fail)
   obtain ⟨d0,d1,d2,d3⟩:=four_v HXZ.out.at0
   simp only [Nat.zero_add] at d0 d1 d2 d3
   have hbf:=HB3.out.grown HGZ.out HB3.out.size (fun j hj=>by cases hj;omega)
   exact bodyPost_ret (v:=.tuple #[aggV x,.int .i64 5]) (by simp [results,Tryz.results33,go_sem,d0,d1,d2,d3]) rfl ⟨x,by rw [HE.out],hbf.mono hB,fun h=>by rw [HE.out] at h;cases h⟩
 | true =>
 have HEH0:=HEG
 go_wp2_with fail
 obtain ⟨PP,hPP⟩:∃ P,parB q=P:=⟨_,rfl⟩
 rw [hPP] at HFV HCK
 have s1:=fun p:Past W3=>cell_past j1 p
 have s2:=fun p:Past W3=>cell_past j2 p
 have u1:=fun p:Past W3=>cell_past v1 p
 have u2:=fun p:Past W3=>cell_past v2 p
 clear j0 j1 j2 v0 v1 v2 v3
 refine wp_region_plan (.one [0,1,2,3,4,5,6,7,8,9,10] 11 (.one [] 12 (.last []))) (by kernel_rfl) (by kernel_rfl) (fun d _ _ _ _ h=>by cases d <;> exact h) ?_
 obtain ⟨wq,hwq⟩:∃ wq,W3.drew=wq:=⟨_,rfl⟩
 rw [hwq]
 have HD:Hid (Below W3.heap.size W3 wq):=Lib.hid (by rw [←hwq];exact ⟨rfl,rfl,rfl,Nat.le_refl _,fun _ _=>rfl⟩)
 clear hwq
 have HZ0:=Lib.hid (BoxE.new Fa.encK wq ⟨⟨#[]⟩,⟨#[]⟩,⟨#[]⟩,⟨#[]⟩,0⟩ 51)
 have hbz:=(Below.refl wq.heap.size wq).alloc (Nat.le_refl _) (.cells (Fa.encK.cs ⟨⟨#[]⟩,⟨#[]⟩,⟨#[]⟩,⟨#[]⟩,0⟩).toArray 51)
 have HBZ:=Lib.hid hbz
 clear hbz
 simp only [wpPlan,pick,nth]
 repeat (go_big_quiet_step (fail))
 refine wpQuiet_nil ?_
 clear s1 s2 u1 u2
 intro K hK
 refine alone_want (by kernel_rfl) ?_
 go_big_op
 refine hK _ _ (past_in (HD.out.trans (HBZ.out.mono HD.out.size))) ?_
 clear hK K
 refine wpQuiet_nil ?_
 intro K hK
 refine alone_want (by kernel_rfl) ?_
 refine wp_store_boxV (E:=Fa.encK) 51 (.tmp 8) (.tmp 52) rfl wq.heap.size 51 ⟨⟨#[]⟩,⟨#[]⟩,⟨#[]⟩,⟨#[]⟩,0⟩ ⟨EN,a,b,emp,MK⟩ rfl rfl HZ0.out (by kernel_rfl) ?_
 intro W5 hat5 hg5
 have HK5:=Lib.hid hat5
 have HD5:=Lib.hid (HD.out.trans ((HBZ.out.grown hg5 HBZ.out.size (fun j hj=>by cases hj;exact Nat.le_refl _)).mono HD.out.size))
 have HGK:Hid (w.heap.size+1+1 < wq.heap.size):=Lib.hid (by have:=HR3.out.lt;have:=HD.out.size;omega)
 refine hK _ _ (past_in HD5.out) ?_
 clear hK K hat5 hg5
 simp only [Act.put]
 refine wpQuiet_nil ?_
 have HB5:=Lib.hid (HB3.out.trans (HD5.out.mono HB3.out.size))
 have HX5:=Lib.hid (HX3.out.kept HD5.out)
 have HR5:=Lib.hid (HR3.out.kept HD5.out)
 have HM5:=Lib.hid (HM3.out.keep HD5.out)
 have HP5:=Lib.hid (HP3.out.below HD5.out)
 have HN5:=Lib.hid (HN3.out.kept HD5.out)
 have HB15:=Lib.hid (HB13.out.trans (HD5.out.mono HB13.out.size))
 obtain ⟨gk,hgk⟩:∃ g,wq.heap.size=g:=⟨_,rfl⟩
 rw [hgk] at HK5 HGK ⊢
 clear hgk HD HD5 HZ0 HBZ HX3 HR3 HM3 HP3 HN3 HU3
 have j3:=(HB5.out.cell (World.block_lt_of_cell? _ _ HK3.out)).trans HK3.out
 by_cases hdash:q=tDash
 ·rw [decide_eq_true hdash] at hqd
  have hp:PP=emp:=by rw [←hPP];unfold parB;rw [if_pos hdash]
  have HEH:Hid (L=if AE=0 then CE else AE):=Lib.hid (by rw [HEG.out,if_neg (by simp [hdash])])
  clear hdash hPP
  subst hp
  have k4:=(HB5.out.cell (World.block_lt_of_cell? _ _ HK4.out)).trans HK4.out
  go_wp2_with fail
  clear k4
  refine (HCN.out _).mono ?_
  rintro en w' ⟨rfl,rfl⟩
  by_cases hae:AE=0
  rotate_left
  ·have HE:Hid (L=AE):=Lib.hid (by rw [HEH.out,if_neg hae])
   have hae':(AE != 0)=true:=by simp [hae]
   have HAE:=Lib.hid hae
   clear hae
   obtain ⟨v0,v1,v2,v3⟩:=four_v HX5.out.at0
   simp only [Nat.zero_add] at v0 v1 v2 v3
   go_wp2_with (first
    | (refine wpList_store_el (E:=encV) rfl 94 (.tmp 6) (.tmp 76) rfl (w.heap.size+1+1) zeroV x 94 rfl rfl HR5.out (by kernel_rfl) ?_;intro wz hxz hgz;have HXZ:=Lib.hid hxz;have HGZ:=Lib.hid hgz;clear hxz hgz)
    | fail)
   obtain ⟨d0,d1,d2,d3⟩:=four_v HXZ.out.at0
   simp only [Nat.zero_add] at d0 d1 d2 d3
   have hbf:=HB5.out.grown HGZ.out HB5.out.size (fun j hj=>by cases hj;omega)
   exact bodyPost_ret (v:=.tuple #[aggV x,.int .i64 AE]) (by simp [results,Tryz.results33,go_sem,d0,d1,d2,d3]) rfl ⟨x,by rw [HE.out],hbf.mono hB,fun h=>absurd (HE.out.symm.trans h) HAE.out⟩
  subst hae
  have HE3:Hid (L=CE):=Lib.hid (by rw [HEH.out,if_pos rfl])
  obtain ⟨y0,y1,y2,y3,y4⟩:=Fa.key5 HK5.out.at0
  simp only [Nat.zero_add] at y0 y1 y2 y3 y4
  have hb7:=(Below.refl W5.heap.size W5).alloc (Nat.le_refl _) (.cells (fCells ⟨⟨EN,a,b,emp,MK⟩,AV⟩) 53)
  have HF7:Hid (ElAt Fa.encF (W5.alloc (.cells (fCells ⟨⟨EN,a,b,emp,MK⟩,AV⟩) 53)) W5.heap.size 0 ⟨⟨EN,a,b,emp,MK⟩,AV⟩):=Lib.hid (el_new Fa.encF W5 ⟨⟨EN,a,b,emp,MK⟩,AV⟩ 53)
  obtain ⟨W7,hW7⟩:∃ W7,W5.alloc (.cells (fCells ⟨⟨EN,a,b,emp,MK⟩,AV⟩) 53)=W7:=⟨_,rfl⟩
  rw [hW7] at hb7 HF7
  have HB7:=Lib.hid (HB5.out.trans (hb7.mono HB5.out.size))
  have HX7:=Lib.hid (HX5.out.kept hb7)
  have HR7:=Lib.hid (HR5.out.kept hb7)
  have HP7:=Lib.hid (HP5.out.below hb7)
  have HN7:=Lib.hid (HN5.out.kept hb7)
  have HM7:=Lib.hid (HM5.out.keep hb7)
  obtain ⟨f0,f1,f2,f3,f4,f5⟩:=Fa.fact6 HF7.out
  obtain ⟨n0,n1,n2,n3,n4,n5,n6,n7,n8⟩:=HN7.out
  simp only [Nat.zero_add] at f0 f1 f2 f3 f4 f5
  go_wp2_with fail
  clear y0 y1 y2 y3 y4 f0 f1 f2 f3 f4 f5 n0 n1 n2 n3 n4 n5 n6 n7 n8 hW7 hb7
  refine (HCK.out _ HM7.out).mono ?_
  rintro en w8 ⟨rfl,hb8⟩
  have HB8:=Lib.hid (HB7.out.trans (hb8.mono HB7.out.size))
  have HX8:=Lib.hid (HX7.out.kept hb8)
  have HR8:=Lib.hid (HR7.out.kept hb8)
  have HP8:=Lib.hid (HP7.out.below hb8)
  have HF8:=Lib.hid (HF7.out.keep hb8 HF7.out.lt)
  clear hb8 HX5 HR5 HP5 HN5 HM5 HK5 HX7 HR7 HP7 HN7 HM7 HF7 HB5 HB7
  by_cases hce:CE=0
  rotate_left
  ·have HE:Hid (L=CE):=HE3
   have hce':(CE != 0)=true:=by simp [hce]
   have HCE:=Lib.hid hce
   clear hce
   obtain ⟨v0,v1,v2,v3⟩:=four_v HX8.out.at0
   simp only [Nat.zero_add] at v0 v1 v2 v3
   go_wp2_with (first
    | (refine wpList_store_el (E:=encV) rfl 94 (.tmp 6) (.tmp 86) rfl (w.heap.size+1+1) zeroV x 94 rfl rfl HR8.out (by kernel_rfl) ?_;intro wz hxz hgz;have HXZ:=Lib.hid hxz;have HGZ:=Lib.hid hgz;clear hxz hgz)
    | fail)
   obtain ⟨d0,d1,d2,d3⟩:=four_v HXZ.out.at0
   simp only [Nat.zero_add] at d0 d1 d2 d3
   have hbf:=HB8.out.grown HGZ.out HB8.out.size (fun j hj=>by cases hj;omega)
   exact bodyPost_ret (v:=.tuple #[aggV x,.int .i64 CE]) (by simp [results,Tryz.results33,go_sem,d0,d1,d2,d3]) rfl ⟨x,by rw [HE.out],hbf.mono hB,fun h=>absurd (HE.out.symm.trans h) HCE.out⟩
  subst hce
  have HE:Hid (L=0):=HE3
  have hba:=(HB8.out.mono HB.out)
  have HSB:Hid (B≤w8.heap.size):=Lib.hid (Nat.le_trans HB.out HB8.out.size)
  have HBA:=Lib.hid (hba.alloc (by have:=HB8.out.size;have:=HB.out;omega) (.cells (fCells ⟨⟨EN,a,b,emp,MK⟩,AV⟩) 53))
  have hbz:=(Below.refl w8.heap.size w8).alloc (Nat.le_refl _) (.cells (fCells ⟨⟨EN,a,b,emp,MK⟩,AV⟩) 53)
  have HPA:=Lib.hid (HP8.out.below hbz)
  have HXA:=Lib.hid (HX8.out.kept hbz)
  have HRA:=Lib.hid (HR8.out.kept hbz)
  have HEL:Hid (ElAt Fa.encF (w8.alloc (.cells (fCells ⟨⟨EN,a,b,emp,MK⟩,AV⟩) 53)) w8.heap.size 0 ⟨⟨EN,a,b,emp,MK⟩,AV⟩):=Lib.hid (el_new Fa.encF w8 ⟨⟨EN,a,b,emp,MK⟩,AV⟩ 53)
  obtain ⟨f0,f1,f2,f3,f4,f5⟩:=Fa.fact6 HF8.out
  obtain ⟨v0,v1,v2,v3⟩:=four_v HX8.out.at0
  simp only [Nat.zero_add] at f0 f1 f2 f3 f4 f5 v0 v1 v2 v3
  clear hba hbz
  go_wp2_with (first
   | (at_builtin;go_must (refine wpList_append_el (E:=Fa.encF) rfl _ _ 44 53 rfl Fa.infoR B S.facts ⟨⟨EN,a,b,emp,MK⟩,AV⟩ w8.heap.size HPA.out.facts rfl HEL.out (Nat.le_trans HSB.out (by rw [World.size_alloc];exact Nat.le_succ _)) HFL.out ?_);intro v9 w9 hr9 hb9 hg9;have HR9:=Lib.hid hr9;have HB9:=Lib.hid (HBA.out.trans hb9);have HG9:=Lib.hid hg9;obtain ⟨p2,q2,m2,hv2⟩:=own_sl hr9;subst hv2;obtain ⟨hxa,hxb,hpb⟩:=fact_put HPA.out HXA.out rfl hg9 hr9;have HXB:=Lib.hid hxb;have HPB:=Lib.hid hpb;have HRC:=Lib.hid (box_beside (box_append HRA.out HPA.out.facts (by decide) hg9) (set_grown w9 (w.heap.size+1) 0 (.slice p2 m2 q2)) (by omega));have fz:=box_alive hxa 0;obtain ⟨c0,_,_,_⟩:=four_v hxa.at0;obtain ⟨e0,e1,e2,e3⟩:=four_v hxb.at0;simp only [Nat.zero_add] at c0 e0 e1 e2 e3;clear hr9 hb9 hg9 hxa hxb hpb)
   | (refine wpList_store_el (E:=encV) rfl 94 (.tmp 6) (.tmp 94) rfl (w.heap.size+1+1) zeroV { x with pf:=p2,nf:=m2,cf:=q2 } 94 rfl rfl HRC.out (by kernel_rfl) ?_;intro wy hxz hgz;have HXY:=Lib.hid hxz;have HGY:=Lib.hid hgz;clear hxz hgz)
   | fail)
  obtain ⟨d0,d1,d2,d3⟩:=four_v HXY.out.at0
  simp only [Nat.zero_add] at d0 d1 d2 d3
  have hbs:=HB9.out.setCell (p:=⟨w.heap.size+1,0,none⟩) (show B≤w.heap.size+1 by have:=HB.out;omega) (.slice p2 m2 q2)
  have hbf:=hbs.grown HGY.out (by have:=hbs.size;have:=HB.out;omega) (fun j hj=>by cases hj;have:=HB.out;omega)
  have hpz:=HPB.out.boxed HRC.out HGY.out
  exact bodyPost_ret (v:=.tuple #[aggV { x with pf:=p2,nf:=m2,cf:=q2 },.int .i64 0]) (by simp [results,Tryz.results33,go_sem,d0,d1,d2,d3]) rfl ⟨{ x with pf:=p2,nf:=m2,cf:=q2 },by rw [HE.out],hbf,fun _=>by rw [HV1.out,HFV.out];exact ⟨hpz.facts,hpz.had,HPA.out.ent,HPA.out.mrk⟩⟩
 rw [decide_eq_false hdash] at hqd
 have hp:PP=q:=by rw [←hPP];unfold parB;rw [if_neg hdash]
 have HEJ:Hid (L=if (!NQ)=true then 5 else if AE=0 then CE else AE):=Lib.hid (by rw [HEG.out,decide_eq_false hdash];simp)
 clear hdash hPP
 subst hp
 go_wp2_with fail
 refine (HNQ.out _).mono ?_
 rintro en w' ⟨rfl,rfl⟩
 cases NQ with
 | false =>
   have HE:Hid (L=5):=Lib.hid (by rw [HEJ.out];simp)
   obtain ⟨v0,v1,v2,v3⟩:=four_v HX5.out.at0
   simp only [Nat.zero_add] at v0 v1 v2 v3
   go_wp2_with (first
    | (refine wpList_store_el (E:=encV) rfl 94 (.tmp 6) (.tmp 62) rfl (w.heap.size+1+1) zeroV x 94 rfl rfl HR5.out (by kernel_rfl) ?_;intro wz hxz hgz;have HXZ:=Lib.hid hxz;have HGZ:=Lib.hid hgz;clear hxz hgz)
    | fail)
   obtain ⟨d0,d1,d2,d3⟩:=four_v HXZ.out.at0
   simp only [Nat.zero_add] at d0 d1 d2 d3
   have hbf:=HB5.out.grown HGZ.out HB5.out.size (fun j hj=>by cases hj;omega)
   exact bodyPost_ret (v:=.tuple #[aggV x,.int .i64 5]) (by simp [results,Tryz.results33,go_sem,d0,d1,d2,d3]) rfl ⟨x,by rw [HE.out],hbf.mono hB,fun h=>by rw [HE.out] at h;cases h⟩
 | true =>
 have HEH:Hid (L=if AE=0 then CE else AE):=Lib.hid (by rw [HEJ.out,if_neg (by simp)])
 have fzk:=box_alive HK5.out 3
 obtain ⟨y0,y1,y2,y3,y4⟩:=Fa.key5 HK5.out.at0
 simp only [Nat.zero_add] at y0 y1 y2 y3 y4
 have HG6:=Lib.hid (set_grown W5 gk 3 (.string PP))
 have HK6:=Lib.hid (box_kp HK5.out PP)
 have HX6:=Lib.hid (box_beside HX5.out HG6.out (by have:=HGK.out;omega))
 have HR6:=Lib.hid (box_beside HR5.out HG6.out (by have:=HGK.out;omega))
 have HP6:=Lib.hid (HP5.out.beside HK5.out (by decide) (by decide) HG6.out)
 have HB6:=Lib.hid (HB5.out.setCell (p:=⟨gk,3,none⟩) (show w.heap.size≤gk by have:=HGK.out;omega) (.string PP))
 have HM6:=Lib.hid (HM0.out.keep HB6.out)
 have HN6:=Lib.hid (HN1.out.kept (HB15.out.setCell (p:=⟨gk,3,none⟩) (show W1.heap.size≤gk by have:=HGK.out;omega) (.string PP)))
 clear HX5 HR5 HP5 HN5 HM5 HB15 HEJ
 have k4:=(HB6.out.cell (World.block_lt_of_cell? _ _ HK4.out)).trans HK4.out
 go_wp2_with fail
 clear k4 j3 y0 y1 y2 y3 y4 fzk
 refine (HCN.out _).mono ?_
 rintro en w' ⟨rfl,rfl⟩
 by_cases hae:AE=0
 rotate_left
 ·have HE:Hid (L=AE):=Lib.hid (by rw [HEH.out,if_neg hae])
  have hae':(AE != 0)=true:=by simp [hae]
  have HAE:=Lib.hid hae
  clear hae
  obtain ⟨v0,v1,v2,v3⟩:=four_v HX6.out.at0
  simp only [Nat.zero_add] at v0 v1 v2 v3
  go_wp2_with (first
   | (refine wpList_store_el (E:=encV) rfl 94 (.tmp 6) (.tmp 76) rfl (w.heap.size+1+1) zeroV x 94 rfl rfl HR6.out (by kernel_rfl) ?_;intro wz hxz hgz;have HXZ:=Lib.hid hxz;have HGZ:=Lib.hid hgz;clear hxz hgz)
   | fail)
  obtain ⟨d0,d1,d2,d3⟩:=four_v HXZ.out.at0
  simp only [Nat.zero_add] at d0 d1 d2 d3
  have hbf:=HB6.out.grown HGZ.out HB6.out.size (fun j hj=>by cases hj;omega)
  exact bodyPost_ret (v:=.tuple #[aggV x,.int .i64 AE]) (by simp [results,Tryz.results33,go_sem,d0,d1,d2,d3]) rfl ⟨x,by rw [HE.out],hbf.mono hB,fun h=>absurd (HE.out.symm.trans h) HAE.out⟩
 subst hae
 have HE3:Hid (L=CE):=Lib.hid (by rw [HEH.out,if_pos rfl])
 obtain ⟨y0,y1,y2,y3,y4⟩:=Fa.key5 HK6.out.at0
 simp only [Nat.zero_add] at y0 y1 y2 y3 y4
 have hb7:=(Below.refl (W5.setCell ⟨gk,3,none⟩ (.string PP)).heap.size (W5.setCell ⟨gk,3,none⟩ (.string PP))).alloc (Nat.le_refl _) (.cells (fCells ⟨⟨EN,a,b,PP,MK⟩,AV⟩) 53)
 have hsz6:(W5.setCell ⟨gk,3,none⟩ (.string PP)).heap.size=W5.heap.size:=by simp [World.setCell]
 have HF7:Hid (ElAt Fa.encF ((W5.setCell ⟨gk,3,none⟩ (.string PP)).alloc (.cells (fCells ⟨⟨EN,a,b,PP,MK⟩,AV⟩) 53)) W5.heap.size 0 ⟨⟨EN,a,b,PP,MK⟩,AV⟩):=Lib.hid (by have:=el_new Fa.encF (W5.setCell ⟨gk,3,none⟩ (.string PP)) ⟨⟨EN,a,b,PP,MK⟩,AV⟩ 53;rw [hsz6] at this;exact this)
 clear hsz6
 obtain ⟨W7,hW7⟩:∃ W7,(W5.setCell ⟨gk,3,none⟩ (.string PP)).alloc (.cells (fCells ⟨⟨EN,a,b,PP,MK⟩,AV⟩) 53)=W7:=⟨_,rfl⟩
 rw [hW7] at hb7 HF7
 have HB7:=Lib.hid (HB6.out.trans (hb7.mono HB6.out.size))
 have HX7:=Lib.hid (HX6.out.kept hb7)
 have HR7:=Lib.hid (HR6.out.kept hb7)
 have HP7:=Lib.hid (HP6.out.below hb7)
 have HN7:=Lib.hid (HN6.out.kept hb7)
 have HM7:=Lib.hid (HM6.out.keep hb7)
 obtain ⟨f0,f1,f2,f3,f4,f5⟩:=Fa.fact6 HF7.out
 obtain ⟨n0,n1,n2,n3,n4,n5,n6,n7,n8⟩:=HN7.out
 simp only [Nat.zero_add] at f0 f1 f2 f3 f4 f5
 go_wp2_with fail
 clear y0 y1 y2 y3 y4 f0 f1 f2 f3 f4 f5 n0 n1 n2 n3 n4 n5 n6 n7 n8 hW7 hb7
 refine (HCK.out _ HM7.out).mono ?_
 rintro en w8 ⟨rfl,hb8⟩
 have HB8:=Lib.hid (HB7.out.trans (hb8.mono HB7.out.size))
 have HX8:=Lib.hid (HX7.out.kept hb8)
 have HR8:=Lib.hid (HR7.out.kept hb8)
 have HP8:=Lib.hid (HP7.out.below hb8)
 have HF8:=Lib.hid (HF7.out.keep hb8 HF7.out.lt)
 clear hb8 HX6 HR6 HP6 HN6 HM6 HK6 HX7 HR7 HP7 HN7 HM7 HF7 HB6 HB7 HK5
 by_cases hce:CE=0
 rotate_left
 ·have HE:Hid (L=CE):=HE3
  have hce':(CE != 0)=true:=by simp [hce]
  have HCE:=Lib.hid hce
  clear hce
  obtain ⟨v0,v1,v2,v3⟩:=four_v HX8.out.at0
  simp only [Nat.zero_add] at v0 v1 v2 v3
  go_wp2_with (first
   | (refine wpList_store_el (E:=encV) rfl 94 (.tmp 6) (.tmp 86) rfl (w.heap.size+1+1) zeroV x 94 rfl rfl HR8.out (by kernel_rfl) ?_;intro wz hxz hgz;have HXZ:=Lib.hid hxz;have HGZ:=Lib.hid hgz;clear hxz hgz)
   | fail)
  obtain ⟨d0,d1,d2,d3⟩:=four_v HXZ.out.at0
  simp only [Nat.zero_add] at d0 d1 d2 d3
  have hbf:=HB8.out.grown HGZ.out HB8.out.size (fun j hj=>by cases hj;omega)
  exact bodyPost_ret (v:=.tuple #[aggV x,.int .i64 CE]) (by simp [results,Tryz.results33,go_sem,d0,d1,d2,d3]) rfl ⟨x,by rw [HE.out],hbf.mono hB,fun h=>absurd (HE.out.symm.trans h) HCE.out⟩
 subst hce
 have HE:Hid (L=0):=HE3
 have hba:=(HB8.out.mono HB.out)
 have HSB:Hid (B≤w8.heap.size):=Lib.hid (Nat.le_trans HB.out HB8.out.size)
 have HBA:=Lib.hid (hba.alloc (by have:=HB8.out.size;have:=HB.out;omega) (.cells (fCells ⟨⟨EN,a,b,PP,MK⟩,AV⟩) 53))
 have hbz:=(Below.refl w8.heap.size w8).alloc (Nat.le_refl _) (.cells (fCells ⟨⟨EN,a,b,PP,MK⟩,AV⟩) 53)
 have HPA:=Lib.hid (HP8.out.below hbz)
 have HXA:=Lib.hid (HX8.out.kept hbz)
 have HRA:=Lib.hid (HR8.out.kept hbz)
 have HEL:Hid (ElAt Fa.encF (w8.alloc (.cells (fCells ⟨⟨EN,a,b,PP,MK⟩,AV⟩) 53)) w8.heap.size 0 ⟨⟨EN,a,b,PP,MK⟩,AV⟩):=Lib.hid (el_new Fa.encF w8 ⟨⟨EN,a,b,PP,MK⟩,AV⟩ 53)
 obtain ⟨f0,f1,f2,f3,f4,f5⟩:=Fa.fact6 HF8.out
 obtain ⟨v0,v1,v2,v3⟩:=four_v HX8.out.at0
 simp only [Nat.zero_add] at f0 f1 f2 f3 f4 f5 v0 v1 v2 v3
 clear hba hbz
 go_wp2_with (first
  | (at_builtin;go_must (refine wpList_append_el (E:=Fa.encF) rfl _ _ 44 53 rfl Fa.infoR B S.facts ⟨⟨EN,a,b,PP,MK⟩,AV⟩ w8.heap.size HPA.out.facts rfl HEL.out (Nat.le_trans HSB.out (by rw [World.size_alloc];exact Nat.le_succ _)) HFL.out ?_);intro v9 w9 hr9 hb9 hg9;have HR9:=Lib.hid hr9;have HB9:=Lib.hid (HBA.out.trans hb9);have HG9:=Lib.hid hg9;obtain ⟨p2,q2,m2,hv2⟩:=own_sl hr9;subst hv2;obtain ⟨hxa,hxb,hpb⟩:=fact_put HPA.out HXA.out rfl hg9 hr9;have HXB:=Lib.hid hxb;have HPB:=Lib.hid hpb;have HRC:=Lib.hid (box_beside (box_append HRA.out HPA.out.facts (by decide) hg9) (set_grown w9 (w.heap.size+1) 0 (.slice p2 m2 q2)) (by omega));have fz:=box_alive hxa 0;obtain ⟨c0,_,_,_⟩:=four_v hxa.at0;obtain ⟨e0,e1,e2,e3⟩:=four_v hxb.at0;simp only [Nat.zero_add] at c0 e0 e1 e2 e3;clear hr9 hb9 hg9 hxa hxb hpb)
  | (refine wpList_store_el (E:=encV) rfl 94 (.tmp 6) (.tmp 94) rfl (w.heap.size+1+1) zeroV { x with pf:=p2,nf:=m2,cf:=q2 } 94 rfl rfl HRC.out (by kernel_rfl) ?_;intro wy hxz hgz;have HXY:=Lib.hid hxz;have HGY:=Lib.hid hgz;clear hxz hgz)
  | fail)
 obtain ⟨d0,d1,d2,d3⟩:=four_v HXY.out.at0
 simp only [Nat.zero_add] at d0 d1 d2 d3
 have hbs:=HB9.out.setCell (p:=⟨w.heap.size+1,0,none⟩) (show B≤w.heap.size+1 by have:=HB.out;omega) (.slice p2 m2 q2)
 have hbf:=hbs.grown HGY.out (by have:=hbs.size;have:=HB.out;omega) (fun j hj=>by cases hj;have:=HB.out;omega)
 have hpz:=HPB.out.boxed HRC.out HGY.out
 exact bodyPost_ret (v:=.tuple #[aggV { x with pf:=p2,nf:=m2,cf:=q2 },.int .i64 0]) (by simp [results,Tryz.results33,go_sem,d0,d1,d2,d3]) rfl ⟨{ x with pf:=p2,nf:=m2,cf:=q2 },by rw [HE.out],hbf,fun _=>by rw [HV1.out,HFV.out];exact ⟨hpz.facts,hpz.had,HPA.out.ent,HPA.out.mrk⟩⟩
end Go.Proofs.YtdegffffcbhjbaaGreatDoor.Pk
