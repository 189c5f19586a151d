/- PkRead2 UnitReadA FlowWords FlowParse UnitReadF UnitKeyOf UnitKeepS UnitRead UnitReadB -/
import Derived.BigRegion
import Derived.Deep.RegionWith
import Derived.Test.YtdegffffcbhjbaaGreatDoorQ04
section
namespace Go.Proofs.YtdegffffcbhjbaaGreatDoor.Pk
open Go.RowKit Go.Maps Go.Proofs.YtdegffffcbhjbaaGreatDoor.Un
structure Leave (ok:Nat→Prop) (w:World) where
 its:World
 keep:∀ j,ok j→j < w.heap.size→its.heap[j]?=w.heap[j]?
instance (ok:Nat→Prop) (w:World):Nonempty (Leave ok w):=⟨⟨w,fun _ _ _=>rfl⟩⟩
theorem cell_leave {ok:Nat→Prop} {w:World} {ad:Addr} {v:Value} (h:w.cell? ad=some v) (hb:ok ad.block) (p:Leave ok w):p.its.cell? ad=some v:=by
 have hlt:=World.block_lt_of_cell? w _ h
 have:=p.keep ad.block hb hlt
 unfold World.cell? at h ⊢
 rw [this];exact h
theorem leave_in {ok:Nat→Prop} {w0 w:World} (h:∀ j,ok j→j < w0.heap.size→w.heap[j]?=w0.heap[j]?):∃ p:Leave ok w0,w=p.its:=⟨⟨w,h⟩,rfl⟩
theorem wp_append_el {α:Type} {E:Enc α} {P:Program} {o:Oper} {a:Act} {w:World} {K:Act→World→Prop} {Q:Exit→Act→World→Prop} (s x:Operand) (t e:TypeId) (ho:o.op=.call { callee:=.builtin .append,args:=#[s,x],argTypes:=#[t,t] }) (HI:InfoE P t e E)
 (B:Nat) (v:Value) (L:List α) (y:α) (g:Nat) (hs:a.eval s=v) (hrow:w.ownsRow B e E.k v L.length (flat E L)) (hx:a.eval x=.slice (some ⟨g,0,none⟩) 1 1) (hc:ElAt E w g 0 y) (hB:B≤w.heap.size) (hL:L.length≤1000000)
 (h:∀ v' w',w'.ownsRow B e E.k v' (L++[y]).length (flat E (L++[y]))→Below B w w'→w.grownBy w' v.ownBlock→K (a.put o.dst v') w'):o.wp P a w K Q:=by
 obtain ⟨i,z,n,hi,hz,hsz,hn,hzs,hb⟩:=HI.info
 refine wp_append_own w s x t ho B e i z E.k n HI.under hi hz hsz hn hzs E.pos v L.length _ hs hrow ⟨g,0,none⟩ 1 1 (E.cs y) hx (by rw [E.len,Nat.one_mul]) (fun j u hj=>by rw [add_off];exact hc j u hj) (E.one y) (by unfold maxLen;omega) ?_ hB ?_
 ·exact Nat.le_trans (Nat.mul_le_mul (Nat.add_le_add_right hL 1) hb) (by decide)
 ·intro v' w' h1 h2 _
  exact h v' w' (by rw [flat_append,flat_one,List.length_append];exact h1) (below_grown (Below.refl _ _) hB hrow h2) h2
theorem infoFs:InfoE Tryz.prog 39 58 Fa.encF:=.of (z:=.agg #[.string ⟨#[]⟩,.string ⟨#[]⟩,.string ⟨#[]⟩,.string ⟨#[]⟩,.int .i64 0,.int .i64 0]) (n:=80) Tryz.underlying39 (by kernel_rfl) rfl (by decide)
theorem PkAt.put {w w':World} {B R m n:Nat} {c f e l v v':Value} {D:DataW Unit} {M:Mast} {S:St} (h:PkAt w B R m c f e l M n D S v) (o:Obj) (x:Fa.Fact) (hg:(w.alloc o).grownBy w' v.ownBlock)
 (hr:w'.ownsRow B 58 6 v' (S.facts++[x]).length (flat Fa.encF (S.facts++[x]))) :
 w'.cell? ⟨R,12,none⟩=some v∧w'.frozen? ⟨R,12,none⟩=false∧PkAt (w'.setCell ⟨R,12,none⟩ v') B R m c f e l M n D ⟨S.ent,S.mrk,S.had,S.facts++[x]⟩ v':=by
 have h1:=h.below ((Below.refl w.heap.size w).alloc (Nat.le_refl _) o)
 have hne:=box_apart h1.box h1.facts (by decide)
 have hbx:BoxPk w' R m c f e l M S v:=(hg.block R h1.lt (fun e0=>hne e0.symm)).trans h1.box
 have hmp:MapPk w' m n D:=h1.map.kept hg (pmap_apart h1.map h1.facts)
 have hg2:w'.grownBy (w'.setCell ⟨R,12,none⟩ v') (some R):=⟨rfl,rfl,rfl,by simp [World.setCell],fun k _ hk=>Below.heap_setCell w' _ v' k (fun e0=>hk (by rw [e0]))⟩
 refine ⟨(cell_of_row w' R 12 _ _ (0,0) hbx).trans rfl,?_,⟨?_,hr.kept hg2 (own_or (box_apart hbx hr (by decide))),hmp.kept hg2 (fun e0=>h.apart (Option.some.inj e0).symm),h.had,h.geR,h.geM⟩⟩
 ·have:=hbx
  unfold BoxPk at this
  simp [World.frozen?,this]
 ·exact Joins.block_setCell (i:=12) hbx v'
theorem own_sl {W:World} {B:Nat} {e:TypeId} {s n:Nat} {v:Value} {xs:List Value} (h:W.ownsRow B e s v n xs):∃ a c k,v=.slice a k c:=by
 rcases h.2 with ⟨rfl,_⟩ | ⟨g,cap,cur,rfl,_⟩
 ·exact ⟨_,_,_,rfl⟩
 ·exact ⟨_,_,_,rfl⟩
theorem own_lt {W:World} {B:Nat} {e:TypeId} {s n:Nat} {v:Value} {xs:List Value} (h:W.ownsRow B e s v n xs) {g:Nat} (hg:v.ownBlock=some g):g < W.heap.size:=by
 rcases h.2 with ⟨rfl,_⟩ | ⟨g',cap,cur,rfl,_,hb,_⟩
 ·simp [Value.ownBlock] at hg
 ·obtain rfl:g'=g:=by simpa [Value.ownBlock] using hg
  exact (Array.getElem?_eq_some_iff.1 hb).1
set_option maxRecDepth 100000 in
set_option maxHeartbeats 32000000 in
theorem readFact_any (u:Value) (a b p am:ByteArray) (W:World) (B R m:Nat) (c f e l:Value) (M:Mast) (n:Nat) (D:DataW Unit) (S:St) (v:Value) (hu:StrsV W u [a,b,p,am]) (hB:B≤W.heap.size) (hm:MastIn W c f e l M) (hsn:Sane M) (hlc:LaidC W) (ham:am.size≤1000000) (hfl:S.facts.length≤1000000) (h:PkAt W B R m c f e l M n D S v) :
 Calls Tryz.prog 86 #[.pointer (some ⟨R,0,none⟩),u] W (LineP W B R m n c f e l M ⟨S.ent,S.mrk,S.had,S.facts++[factV S [tFact,a,b,p,am]]⟩ (factE M S [tFact,a,b,p,am])):=by
 obtain ⟨q,cp,rfl,_,_,hc⟩:=hu
 obtain ⟨g,o,rfl,k0⟩:=hc 0 a rfl
 obtain ⟨g',o',e1,k1⟩:=hc 1 b rfl
 cases e1
 obtain ⟨g',o',e1,k2⟩:=hc 2 p rfl
 cases e1
 obtain ⟨g',o',e1,k3⟩:=hc 3 am rfl
 cases e1
 rw [Nat.add_zero] at k0
 obtain ⟨pc,cc,pf,cf,pe,ce,pl,cl,rfl,rfl,rfl,rfl⟩:=shapes hm
 have HB0:=Lib.hid hB
 have HM:=Lib.hid hm
 have HP:=Lib.hid h
 have HLC:=Lib.hid hlc
 obtain ⟨EN,hEN⟩:∃ EN,S.ent=EN:=⟨_,rfl⟩
 obtain ⟨MK,hMK⟩:∃ MK,S.mrk=MK:=⟨_,rfl⟩
 obtain ⟨PP,hPP⟩:∃ PP,parB p=PP:=⟨_,rfl⟩
 obtain ⟨AV,hAV⟩:∃ AV,parseV am.data.toList=AV:=⟨_,rfl⟩
 obtain ⟨AE,hAE⟩:∃ AE,parseE am.data.toList=AE:=⟨_,rfl⟩
 have hK:keyF S [tFact,a,b,p,am]=⟨EN,a,b,PP,MK⟩:=by rw [←hEN,←hMK,←hPP];rfl
 have hF:factV S [tFact,a,b,p,am]=⟨⟨EN,a,b,PP,MK⟩,AV⟩:=by unfold factV;rw [hK,←hAV];rfl
 have hE:factE M S [tFact,a,b,p,am]=if (decide (EN=emp) || !namedK ⟨EN,a,b,PP,MK⟩)=true then 5 else if AE=0 then checkE M ⟨EN,a,b,PP,MK⟩ else AE:=by
  unfold factE
  rw [hK,hEN,show wd [tFact,a,b,p,am] 4=am from rfl,hAE]
 have HPO:=Lib.hid (fun W=>partnerOf_any p W)
 have HNA:=Lib.hid (fun W=>named_any ⟨EN,a,b,PP,MK⟩ W)
 have HCN:=Lib.hid (fun W hW=>cnum_long am W ham hW)
 have HCK:=Lib.hid (fun W h=>check_any (.slice pc M.chart.length cc) (.slice pf M.flows.length cf) (.slice pe M.ents.length ce) (.slice pl M.lines.length cl) M ⟨⟨EN,a,b,PP,MK⟩,AV⟩ W h (Fl.rise_codes hsn.fl) (by have:=hsn.lf;omega))
 simp only [hPP] at HPO
 simp only [hAV,hAE] at HCN
 obtain ⟨NM,hNM⟩:∃ N,namedK ⟨EN,a,b,PP,MK⟩=N:=⟨_,rfl⟩
 obtain ⟨CE,hCE⟩:∃ N,checkE M ⟨EN,a,b,PP,MK⟩=N:=⟨_,rfl⟩
 simp only [hNM] at HNA
 simp only [hCE] at HCK
 rw [hNM,hCE] at hE
 obtain ⟨E,hEE⟩:∃ E,factE M S [tFact,a,b,p,am]=E:=⟨_,rfl⟩
 rw [hEE] at hE
 rw [hF,hEE]
 have HE:=Lib.hid hE
 obtain ⟨d9,d10,d11,d12⟩:=h.four
 rw [hEN] at d10
 rw [hMK] at d11
 have HEN:=Lib.hid hEN
 have HMK:=Lib.hid hMK
 have HFL:=Lib.hid hfl
 clear hc hm h hB hlc hEN hMK hPP hAV hAE hK hF hE hNM hCE hEE hsn ham hfl d9
 go_enter Tryz.func86,Tryz.ntmps86
 go_wp2_with fail
 have r0:=fun q:Past W=>cell_past k0 q
 have r1:=fun q:Past W=>cell_past k1 q
 have r2:=fun q:Past W=>cell_past k2 q
 have r10:=fun q:Past W=>cell_past d10 q
 have r11:=fun q:Past W=>cell_past d11 q
 have HK3:=Lib.hid k3
 clear k0 k1 k2 k3 d10 d11 d12
 refine wp_region_plan (.two [0,1,2,3,4,5,6,7,8,9,10,11,12,14,15,16,17] 13 (.one [18] 19 (.one [] 20 (.last []))) 19 (.one [] 13 (.one [18] 20 (.last [])))) (by kernel_rfl) (by kernel_rfl) (fun d _ _ _ _ h=>by cases d <;> exact h) ?_
 obtain ⟨wq,hwq⟩:∃ wq,W.drew=wq:=⟨_,rfl⟩
 rw [hwq]
 have HD:Hid (Below W.heap.size W wq):=Lib.hid (by rw [←hwq];exact ⟨rfl,rfl,rfl,Nat.le_refl _,fun _ _=>rfl⟩)
 clear hwq
 have HZ0:=Lib.hid (BoxE.new Fa.encK wq ⟨⟨#[]⟩,⟨#[]⟩,⟨#[]⟩,⟨#[]⟩,0⟩ 56)
 have hbz:=(Below.refl wq.heap.size wq).alloc (Nat.le_refl _) (.cells (Fa.encK.cs ⟨⟨#[]⟩,⟨#[]⟩,⟨#[]⟩,⟨#[]⟩,0⟩).toArray 56)
 have HBZ:=Lib.hid hbz
 clear hbz
 simp only [wpPlan,pick,nth]
 repeat (go_big_quiet_step (fail))
 refine wpQuiet_nil ?_
 clear r0 r1 r2 r10 r11
 refine ⟨?_,?_⟩
 intro K hK
 refine alone_want (by kernel_rfl) ?_
 go_big_op
 refine (HPO.out wq).mono ?_
 rintro en w' ⟨rfl,rfl⟩
 refine hK _ _ (past_in HD.out) ?_
 clear hK K
 repeat (go_big_quiet_step (fail))
 refine wpQuiet_nil ?_
 intro K hK
 refine alone_want (by kernel_rfl) ?_
 go_big_op
 refine hK _ _ (past_in (HD.out.trans (HBZ.out.mono HD.out.size))) ?_
 clear hK K
 refine wpQuiet_nil ?_
 intro K hK
 refine alone_want (by kernel_rfl) ?_
 refine Fa.wp_store_box (E:=Fa.encK) 56 (.tmp 5) (.tmp 28) rfl wq.heap.size 56 ⟨⟨#[]⟩,⟨#[]⟩,⟨#[]⟩,⟨#[]⟩,0⟩ ⟨EN,a,b,PP,MK⟩ rfl rfl HZ0.out (by kernel_rfl) ?_
 intro w5 hat5 hg5
 have HK5:=Lib.hid hat5
 have HB5:=Lib.hid (HD.out.trans ((HBZ.out.grown hg5 HBZ.out.size (fun j hj=>by cases hj;exact Nat.le_refl _)).mono HD.out.size))
 clear hat5 hg5
 refine hK _ _ (past_in HB5.out) ?_
 clear hK K
 simp only [Act.put]
 refine wpQuiet_nil ?_
 rotate_left
 intro K hK
 refine alone_want (by kernel_rfl) ?_
 go_big_op
 refine hK _ _ (past_in (HD.out.trans (HBZ.out.mono HD.out.size))) ?_
 clear hK K
 refine wpQuiet_nil ?_
 intro K hK
 refine alone_want (by kernel_rfl) ?_
 go_big_op
 refine (HPO.out _).mono ?_
 rintro en w' ⟨rfl,rfl⟩
 refine hK _ _ (past_in (HD.out.trans (HBZ.out.mono HD.out.size))) ?_
 clear hK K
 repeat (go_big_quiet_step (fail))
 refine wpQuiet_nil ?_
 intro K hK
 refine alone_want (by kernel_rfl) ?_
 refine Fa.wp_store_box (E:=Fa.encK) 56 (.tmp 5) (.tmp 28) rfl wq.heap.size 56 ⟨⟨#[]⟩,⟨#[]⟩,⟨#[]⟩,⟨#[]⟩,0⟩ ⟨EN,a,b,PP,MK⟩ rfl rfl HZ0.out (by kernel_rfl) ?_
 intro w5 hat5 hg5
 have HK5:=Lib.hid hat5
 have HB5:=Lib.hid (HD.out.trans ((HBZ.out.grown hg5 HBZ.out.size (fun j hj=>by cases hj;exact Nat.le_refl _)).mono HD.out.size))
 clear hat5 hg5
 refine hK _ _ (past_in HB5.out) ?_
 clear hK K
 simp only [Act.put]
 refine wpQuiet_nil ?_
 all_goals
  have HP5:=Lib.hid (HP.out.below HB5.out)
  have HM5:=Lib.hid (HM.out.keep HB5.out)
  obtain ⟨_,d10,d11,d12⟩:=HP5.out.four
  rw [HEN.out] at d10
  obtain ⟨y0,y1,y2,y3,y4⟩:=Fa.key5 HK5.out
  simp only [Nat.zero_add] at y0 y1 y2 y3 y4
  by_cases hen:EN=emp
  ·have hq:EN.toList.isEmpty=true:=by subst hen;rw [ByteArray.toList_eq];rfl
   have HNN:Hid (E=5):=Lib.hid (by rw [HE.out,if_pos (by simp [hen])])
   clear hen
   go_wp2
   go_ret
   exact ⟨by rw [HNN.out];rfl,HB5.out.mono HB0.out,fun h=>by rw [HNN.out] at h;cases h⟩
  have hq:EN.toList.isEmpty=false:=by
   have:=(neB_iff EN).2 hen
   unfold neB at this
   simpa using this
  have HE2:Hid (E=if NM=false then 5 else if AE=0 then CE else AE):=Lib.hid (by rw [HE.out,decide_eq_false hen];cases NM <;> simp)
  clear hen
  go_wp2_with fail
  clear y0 y1 y2 y3 y4 d10 d11 d12
  refine (HNA.out _).mono ?_
  rintro en w6 ⟨rfl,hb6⟩
  have HB6:=Lib.hid (HB5.out.trans (hb6.mono HB5.out.size))
  have HP6:=Lib.hid (HP5.out.below hb6)
  have HK6:=Lib.hid (HK5.out.keep hb6 HK5.out.lt)
  clear hb6 HB5 HP5 HM5 HK5 hq
  cases NM with
  | false =>
    have HNN:Hid (E=5):=Lib.hid (by rw [HE2.out];rfl)
    go_wp2
    go_ret
    exact ⟨by rw [HNN.out];rfl,HB6.out.mono HB0.out,fun h=>by rw [HNN.out] at h;cases h⟩
  | true =>
  have k3:=(HB6.out.cell (World.block_lt_of_cell? W _ HK3.out)).trans HK3.out
  go_wp2_with fail
  clear k3
  refine (HCN.out _ (HLC.out.below HB6.out)).mono ?_
  rintro en w7 ⟨rfl,hb7⟩
  have HB7:=Lib.hid (HB6.out.trans (hb7.mono HB6.out.size))
  have HP7:=Lib.hid (HP6.out.below hb7)
  have HK7:=Lib.hid (HK6.out.keep hb7 HK6.out.lt)
  clear hb7 HB6 HP6 HK6
  by_cases hae:AE=0
  rotate_left
  ·have HNN:Hid (E=AE):=Lib.hid (by rw [HE2.out,if_neg (by simp),if_neg hae])
   have hae':(AE != 0)=true:=by simp [hae]
   have HAE:=Lib.hid hae
   clear hae
   go_wp2
   go_ret
   exact ⟨by rw [HNN.out];rfl,HB7.out.mono HB0.out,fun h=>absurd (HNN.out.symm.trans h) HAE.out⟩
  subst hae
  have HE3:Hid (E=CE):=Lib.hid (by rw [HE2.out,if_neg (by simp),if_pos rfl])
  obtain ⟨y0,y1,y2,y3,y4⟩:=Fa.key5 HK7.out
  simp only [Nat.zero_add] at y0 y1 y2 y3 y4
  have hb8:=(Below.refl w7.heap.size w7).alloc (Nat.le_refl _) (.cells (fCells ⟨⟨EN,a,b,PP,MK⟩,AV⟩) 58)
  have HF8:Hid (ElAt Fa.encF (w7.alloc (.cells (fCells ⟨⟨EN,a,b,PP,MK⟩,AV⟩) 58)) w7.heap.size 0 ⟨⟨EN,a,b,PP,MK⟩,AV⟩):=Lib.hid (el_new Fa.encF w7 ⟨⟨EN,a,b,PP,MK⟩,AV⟩ 58)
  obtain ⟨W8,hW8⟩:∃ W8,w7.alloc (.cells (fCells ⟨⟨EN,a,b,PP,MK⟩,AV⟩) 58)=W8:=⟨_,rfl⟩
  rw [hW8] at hb8 HF8
  have HB8:=Lib.hid (HB7.out.trans (hb8.mono HB7.out.size))
  have HP8:=Lib.hid (HP7.out.below hb8)
  have HM8:=Lib.hid (HM.out.keep HB8.out)
  have HSZ7:Hid (w7.heap.size < W8.heap.size):=Lib.hid HF8.out.lt
  go_wp2_with fail
  clear y0 y1 y2 y3 y4 hW8 hb8
  obtain ⟨n0,n1,n2,n3,n4,n5,n6,n7,n8⟩:=HP8.out.nine
  obtain ⟨f0,f1,f2,f3,f4,f5⟩:=Fa.fact6 HF8.out
  simp only [Nat.zero_add] at f0 f1 f2 f3 f4 f5
  have s0:=fun q:Past W8=>cell_past n0 q
  have s1:=fun q:Past W8=>cell_past n1 q
  have s2:=fun q:Past W8=>cell_past n2 q
  have s3:=fun q:Past W8=>cell_past n3 q
  have s4:=fun q:Past W8=>cell_past n4 q
  have s5:=fun q:Past W8=>cell_past n5 q
  have s6:=fun q:Past W8=>cell_past n6 q
  have s7:=fun q:Past W8=>cell_past n7 q
  have s8:=fun q:Past W8=>cell_past n8 q
  have t0:=fun q:Past W8=>cell_past f0 q
  have t1:=fun q:Past W8=>cell_past f1 q
  have t2:=fun q:Past W8=>cell_past f2 q
  have t3:=fun q:Past W8=>cell_past f3 q
  have t4:=fun q:Past W8=>cell_past f4 q
  have t5:=fun q:Past W8=>cell_past f5 q
  clear n0 n1 n2 n3 n4 n5 n6 n7 n8 f0 f1 f2 f3 f4 f5
  refine wp_region_plan (.one [0,1,2,3,4] 5 (.last [6])) (by kernel_rfl) (by kernel_rfl) (fun d _ _ _ _ h=>by cases d <;> exact h) ?_
  obtain ⟨wx,hwx⟩:∃ wx,W8.drew=wx:=⟨_,rfl⟩
  rw [hwx]
  have HDX:Hid (Below W8.heap.size W8 wx):=Lib.hid (by rw [←hwx];exact ⟨rfl,rfl,rfl,Nat.le_refl _,fun _ _=>rfl⟩)
  clear hwx
  simp only [wpPlan,pick,nth]
  repeat (go_big_quiet_step (fail))
  refine wpQuiet_nil ?_
  clear s0 s1 s2 s3 s4 s5 s6 s7 s8 t0 t1 t2 t3 t4 t5
  intro K hK
  refine alone_want (by kernel_rfl) ?_
  go_big_op
  refine (HCK.out _ (HM8.out.keep HDX.out)).mono ?_
  rintro en w9 ⟨rfl,hb9⟩
  have HD9:=Lib.hid (HDX.out.trans (hb9.mono HDX.out.size))
  have HB9:=Lib.hid (HB8.out.trans (HD9.out.mono HB8.out.size))
  have HP9:=Lib.hid (HP8.out.below HD9.out)
  have HF9:=Lib.hid (HF8.out.keep HD9.out HSZ7.out)
  have HSZ9:Hid (w7.heap.size < w9.heap.size):=Lib.hid HF9.out.lt
  have HR7:Hid (R < w7.heap.size):=Lib.hid HP7.out.lt
  have HV7:Hid (∀ g,v.ownBlock=some g→g < w7.heap.size):=Lib.hid (fun g hg=>own_lt HP7.out.facts hg)
  refine hK _ _ (past_in HD9.out) ?_
  clear hK K hb9 HDX HD9 HB8 HP8 HF8 HM8 HSZ7 HP7 HK7
  repeat (go_big_quiet_step (fail))
  refine wpQuiet_nil ?_
  by_cases hce:CE=0
  rotate_left
  ·have HNN:Hid (E=CE):=HE3
   have hce':(CE != 0)=true:=by simp [hce]
   have HCE:=Lib.hid hce
   clear hce
   go_wp2
   go_ret
   exact ⟨by rw [HNN.out];rfl,HB9.out.mono HB0.out,fun h=>absurd (HNN.out.symm.trans h) HCE.out⟩
  subst hce
  have HNN:Hid (E=0):=HE3
  go_wp2_with fail
  obtain ⟨f0,f1,f2,f3,f4,f5⟩:=Fa.fact6 HF9.out
  simp only [Nat.zero_add] at f0 f1 f2 f3 f4 f5
  have hok:w7.heap.size≠R∧some w7.heap.size≠v.ownBlock:=⟨fun e0=>by have:=HR7.out;omega,fun e0=>by have:=HV7.out _ e0.symm;omega⟩
  have t0:=fun q:Leave (fun j=>j≠R∧some j≠v.ownBlock) w9=>cell_leave f0 hok q
  have t1:=fun q:Leave (fun j=>j≠R∧some j≠v.ownBlock) w9=>cell_leave f1 hok q
  have t2:=fun q:Leave (fun j=>j≠R∧some j≠v.ownBlock) w9=>cell_leave f2 hok q
  have t3:=fun q:Leave (fun j=>j≠R∧some j≠v.ownBlock) w9=>cell_leave f3 hok q
  have t4:=fun q:Leave (fun j=>j≠R∧some j≠v.ownBlock) w9=>cell_leave f4 hok q
  have t5:=fun q:Leave (fun j=>j≠R∧some j≠v.ownBlock) w9=>cell_leave f5 hok q
  clear f0 f1 f2 f3 f4 f5 hok
  refine wp_region_plan_if (S:=fun w'=>∃ q:Leave (fun j=>j≠R∧some j≠v.ownBlock) w9,w'=q.its) (.two [0,1,2,3,5] 4 (.one [] 6 (.one [] 7 (.one [8,9] 10 (.last [])))) 6 (.one [] 4 (.one [] 7 (.one [8,9] 10 (.last []))))) (by kernel_rfl) (by kernel_rfl) (fun d _ _ _ _ h=>by cases d <;> exact h) ⟨⟨w9.drew,fun _ _ _=>rfl⟩,rfl⟩ ?_
  obtain ⟨wz,hwz⟩:∃ wz,w9.drew=wz:=⟨_,rfl⟩
  rw [hwz]
  have HQ3:Hid (Below w9.heap.size w9 wz):=Lib.hid (by rw [←hwz];exact ⟨rfl,rfl,rfl,Nat.le_refl _,fun _ _=>rfl⟩)
  have HSZ:Hid (w9.heap.size≤wz.heap.size):=Lib.hid HQ3.out.size
  clear hwz
  have HPZ:=Lib.hid (HP9.out.below HQ3.out)
  have hba:=(HB9.out.mono HB0.out).trans (HQ3.out.mono (by have:=HB9.out.size;have:=HB0.out;omega))
  have HBA:=Lib.hid (hba.alloc (by have:=hba.size;have:=HB0.out;omega) (.cells #[.string EN,.string a,.string b,.string PP,.int .i64 MK,.int .i64 AV] 58))
  have HRA:=Lib.hid (HPZ.out.facts.alloc (.cells #[.string EN,.string a,.string b,.string PP,.int .i64 MK,.int .i64 AV] 58))
  have HEL:Hid (ElAt Fa.encF (wz.alloc (.cells #[.string EN,.string a,.string b,.string PP,.int .i64 MK,.int .i64 AV] 58)) wz.heap.size 0 ⟨⟨EN,a,b,PP,MK⟩,AV⟩):=Lib.hid (el_new Fa.encF wz ⟨⟨EN,a,b,PP,MK⟩,AV⟩ 58)
  obtain ⟨_,_,_,z12⟩:=HPZ.out.four
  obtain ⟨_,_,_,x12⟩:=(HPZ.out.below ((Below.refl wz.heap.size wz).alloc (Nat.le_refl _) (.cells #[.string EN,.string a,.string b,.string PP,.int .i64 MK,.int .i64 AV] 58))).four
  clear hba
  simp only [wpPlan,pick,nth]
  repeat (go_big_quiet_step (fail))
  refine wpQuiet_nil ?_
  clear t0 t1 t2 t3 t4 t5
  refine ⟨?_,?_⟩
  ·intro K hK
   refine alone_want (by kernel_rfl) ?_
   go_big_op
   refine hK _ _ (leave_in fun j _ hjl=>HQ3.out.block j hjl) ?_
   clear hK K
   refine wpQuiet_nil ?_
   intro K hK
   refine alone_want (by kernel_rfl) ?_
   go_big_op
   refine hK _ _ (leave_in fun j _ hjl=>(heap_alloc_old _ _ (by have:=HSZ.out;omega)).trans (HQ3.out.block j hjl)) ?_
   clear hK K
   refine wpQuiet_nil ?_
   intro K hK
   refine alone_want (by kernel_rfl) ?_
   refine wp_append_el (E:=Fa.encF) (.tmp 65) (.tmp 67) 39 58 rfl infoFs B v S.facts ⟨⟨EN,a,b,PP,MK⟩,AV⟩ wz.heap.size rfl HRA.out rfl HEL.out (by have:=HBA.out.size;have:=HB0.out;omega) HFL.out ?_
   intro v2 wa hr2 hb2 hg2
   obtain ⟨c12,fz12,hput⟩:=HPZ.out.put _ _ hg2 hr2
   have HPUT:=Lib.hid hput
   have HBW:=Lib.hid (HBA.out.trans hb2)
   have HG2:=Lib.hid hg2
   refine hK _ _ (leave_in fun j hj hjl=>?_) ?_
   ·rw [hg2.block j (by rw [World.size_alloc];have:=HSZ.out;omega) (fun e0=>hj.2 e0)]
    exact ((heap_alloc_old _ _ (by have:=HSZ.out;omega)).trans (HQ3.out.block j hjl))
   clear hK K hb2 hg2 hput
   obtain ⟨p2,q2,m2,hv2⟩:=own_sl hr2
   clear hr2
   subst hv2
   simp only [Act.put,List.setIfInBounds_toArray,List.set_cons_zero,List.set_cons_succ]
   repeat (go_big_quiet_step (fail))
   refine wpQuiet_nil ?_
   intro K hK
   refine alone_want (by kernel_rfl) ?_
   go_big_op
   refine hK _ _ (leave_in fun j hj hjl=>?_) ?_
   ·rw [Below.heap_setCell _ _ _ _ (fun e0=>hj.1 e0),HG2.out.block j (by rw [World.size_alloc];have:=HSZ.out;omega) (fun e0=>hj.2 e0)]
    exact ((heap_alloc_old _ _ (by have:=HSZ.out;omega)).trans (HQ3.out.block j hjl))
   clear hK K
   refine wpQuiet_nil ?_
   have HBF:=Lib.hid (HBW.out.setCell (p:=⟨R,12,none⟩) HP.out.geR (.slice p2 m2 q2))
   clear c12 fz12
   go_wp2
   go_ret
   exact ⟨by rw [HNN.out];rfl,HBF.out,fun _=>⟨D,_,HPUT.out.mono (Nat.le_succ _)⟩⟩
  ·intro K hK
   refine alone_want (by kernel_rfl) ?_
   go_big_op
   refine hK _ _ (leave_in fun j _ hjl=>(heap_alloc_old _ _ (by have:=HSZ.out;omega)).trans (HQ3.out.block j hjl)) ?_
   clear hK K
   refine wpQuiet_nil ?_
   intro K hK
   refine alone_want (by kernel_rfl) ?_
   go_big_op
   refine hK _ _ (leave_in fun j _ hjl=>(heap_alloc_old _ _ (by have:=HSZ.out;omega)).trans (HQ3.out.block j hjl)) ?_
   clear hK K
   refine wpQuiet_nil ?_
   intro K hK
   refine alone_want (by kernel_rfl) ?_
   refine wp_append_el (E:=Fa.encF) (.tmp 65) (.tmp 67) 39 58 rfl infoFs B v S.facts ⟨⟨EN,a,b,PP,MK⟩,AV⟩ wz.heap.size rfl HRA.out rfl HEL.out (by have:=HBA.out.size;have:=HB0.out;omega) HFL.out ?_
   intro v2 wa hr2 hb2 hg2
   obtain ⟨c12,fz12,hput⟩:=HPZ.out.put _ _ hg2 hr2
   have HPUT:=Lib.hid hput
   have HBW:=Lib.hid (HBA.out.trans hb2)
   have HG2:=Lib.hid hg2
   refine hK _ _ (leave_in fun j hj hjl=>?_) ?_
   ·rw [hg2.block j (by rw [World.size_alloc];have:=HSZ.out;omega) (fun e0=>hj.2 e0)]
    exact ((heap_alloc_old _ _ (by have:=HSZ.out;omega)).trans (HQ3.out.block j hjl))
   clear hK K hb2 hg2 hput
   obtain ⟨p2,q2,m2,hv2⟩:=own_sl hr2
   clear hr2
   subst hv2
   simp only [Act.put,List.setIfInBounds_toArray,List.set_cons_zero,List.set_cons_succ]
   repeat (go_big_quiet_step (fail))
   refine wpQuiet_nil ?_
   intro K hK
   refine alone_want (by kernel_rfl) ?_
   go_big_op
   refine hK _ _ (leave_in fun j hj hjl=>?_) ?_
   ·rw [Below.heap_setCell _ _ _ _ (fun e0=>hj.1 e0),HG2.out.block j (by rw [World.size_alloc];have:=HSZ.out;omega) (fun e0=>hj.2 e0)]
    exact ((heap_alloc_old _ _ (by have:=HSZ.out;omega)).trans (HQ3.out.block j hjl))
   clear hK K
   refine wpQuiet_nil ?_
   have HBF:=Lib.hid (HBW.out.setCell (p:=⟨R,12,none⟩) HP.out.geR (.slice p2 m2 q2))
   clear c12 fz12
   go_wp2
   go_ret
   exact ⟨by rw [HNN.out];rfl,HBF.out,fun _=>⟨D,_,HPUT.out.mono (Nat.le_succ _)⟩⟩
end Go.Proofs.YtdegffffcbhjbaaGreatDoor.Pk
end
section
namespace Go.Proofs.YtdegffffcbhjbaaGreatDoor.Un
open Go.RowKit Go.Maps
def ReadTold (W:World) (B R m n:Nat) (D:DataW Unit) (M:Mast) (E:Int) (en:Ending) (W':World):Prop :=
 en=.returned (.int .i64 E)∧Below B W W'∧(E=0→∃ c f e l,RdAt W' B R m c f e l n D M)
set_option maxRecDepth 100000 in
set_option maxHeartbeats 8000000 in
theorem readAccount_any (v:Value) (ws:List ByteArray) (W:World) (B R m n:Nat) (c f e l:Value) (D:DataW Unit) (M:Mast) (hv:StrsV W v ws) (hlaid:Laid W) (h:RdAt W B R m c f e l n D M) (hB:B≤W.heap.size) (hL:M.chart.length≤1000) :
 Calls Tryz.prog 64 #[.pointer (some ⟨R,0,none⟩),v] W (ReadTold W B R m n D { M with chart:=insL M.chart (parseA ws).1 } (if (parseA ws).2=0 then addE M.chart (parseA ws).1 else (parseA ws).2)):=by
 have HP:=Lib.hid (Go.Proofs.YtdegffffcbhjbaaGreatDoor.parse_any v ws W hv hlaid)
 have HL:=Lib.hid hL
 obtain ⟨p,cp,rfl,_⟩:=hv
 obtain ⟨A,hA⟩:∃ A,(parseA ws).1=A:=⟨_,rfl⟩
 obtain ⟨E1,hE1⟩:∃ E1,(parseA ws).2=E1:=⟨_,rfl⟩
 rw [hA,hE1] at HP ⊢
 have HR:=Lib.hid h
 have HB:=Lib.hid hB
 have hAV:addE M.chart A=0→addV M.chart A=insL M.chart A:=fun h0=>by unfold addV;rw [if_pos h0]
 have HAV:=Lib.hid hAV
 obtain ⟨E2,hE2⟩:∃ E2,addE M.chart A=E2:=⟨_,rfl⟩
 obtain ⟨MV,hMV⟩:∃ MV,addV M.chart A=MV:=⟨_,rfl⟩
 have HAD:=Lib.hid (fun (X:World) (hX:ChartV X c M.chart)=>add_own c M.chart A X hX hL)
 rw [hE2] at HAV ⊢
 rw [hMV] at HAV
 simp only [hE2,hMV] at HAD
 obtain ⟨nw,hnw⟩:∃ nw,ws.length=nw:=⟨_,rfl⟩
 rw [hnw] at HP ⊢
 obtain ⟨E,hE⟩:∃ E,(if E1=0 then E2 else E1)=E:=⟨_,rfl⟩
 obtain ⟨MM,hMM⟩:∃ MM:Mast,({ M with chart:=insL M.chart A }:Mast)=MM:=⟨_,rfl⟩
 rw [hE,hMM]
 have HE:=Lib.hid hE
 have HMM:=Lib.hid hMM
 clear hA hE1 hE2 hMV h hB hL hlaid hAV hnw hE hMM
 go_enter Tryz.func64,Tryz.ntmps64
 go_wp2_with fail
 refine HP.out.mono ?_
 rintro en w1 ⟨rfl,hb1⟩
 have hb2:=hb1.alloc hb1.size (.cells #[.string A.code,.int .i64 A.cls,.bool A.cash,.bool A.both,.string A.fixed,.bool A.worn] 99)
 have HR2:=Lib.hid (HR.out.below hb2)
 have HX2:=Lib.hid (BoxA.new w1 A 99)
 have HB2:=Lib.hid (hb2.mono HB.out)
 have HS2:Hid (B≤(w1.alloc (.cells #[.string A.code,.int .i64 A.cls,.bool A.cash,.bool A.both,.string A.fixed,.bool A.worn] 99)).heap.size):=Lib.hid (Nat.le_trans HB.out hb2.size)
 clear hb1 hb2
 by_cases h0:E1=0
 ·subst h0
  obtain ⟨W2,hW2⟩:∃ W2,w1.alloc (.cells #[.string A.code,.int .i64 A.cls,.bool A.cash,.bool A.both,.string A.fixed,.bool A.worn] 99)=W2:=⟨_,rfl⟩
  rw [hW2] at HR2 HX2 HB2 HS2
  go_wp2_with fail
  clear hW2
  obtain ⟨k0,k1,k2,k3,k4,k5,k6,k7,k8⟩:=(show NineAt W2.drew R c f e l M from HR2.out.nine.kept ⟨rfl,rfl,rfl,Nat.le_refl _,fun _ _=>rfl⟩)
  obtain ⟨j0,j1,j2,j3,j4,j5⟩:=(show BoxA W2.drew w1.heap.size 99 A from HX2.out).facts
  have HCV:Hid (ChartV W2.drew c M.chart):=Lib.hid ((chart_of_own HR2.out.chart).keep ⟨rfl,rfl,rfl,Nat.le_refl _,fun _ _=>rfl⟩)
  clear k1 k2 k3 k4 k5 k6 k7 k8
  go_region_with (first
   | (go_at_call 103;refine (HAD.out W2.drew HCV.out).mono ?_;rintro en w3 ⟨v9,rfl,ho9,hb9⟩;obtain ⟨p9,c9,rfl,_,_⟩:=chart_of_own ho9;have HR3:=Lib.hid (RdAt.below (W:=W2.drew) (HR2.out.below (W':=W2.drew) ⟨rfl,rfl,rfl,Nat.le_refl _,fun _ _=>rfl⟩) hb9);have hz:=HR3.out.nine.c0;have hfz:=HR3.out.free 0)
   | fail)
  all_goals
   have HE2:Hid (E2=E):=Lib.hid (by rw [←HE.out,if_pos (by trivial)])
   have HFIN:Hid (E=0→RdAt (w3.setCell ⟨R,0,none⟩ (.slice p9 MV.length c9)) B R m (.slice p9 MV.length c9) f e l n D MM):=Lib.hid (fun h0=>by
    have hmv:=HAV.out (by rw [HE2.out];exact h0)
    rw [←HMM.out]
    refine rd_stored 0 _ HR3.out.box rfl ?_ HR3.out.flows HR3.out.ents HR3.out.lines HR3.out.map HR3.out.geR HR3.out.geM
    show w3.ownsRow B _ 6 _ (insL M.chart A).length (flatA (insL M.chart A))
    rw [←hmv]
    exact row_base ho9 HS2.out)
   have HBF:Hid (Below B W (w3.setCell ⟨R,0,none⟩ (.slice p9 MV.length c9))):=Lib.hid (below_stored (HB2.out.trans ((below_undrawn hb9).mono HS2.out)) HR3.out.geR 0 _)
   clear ho9 hb9 hz hfz
   go_wp2
   go_ret
   exact ⟨by rw [←HE2.out];rfl,HBF.out,fun h0=>⟨_,_,_,_,HFIN.out h0⟩⟩
 ·have HE2:Hid (E1=E∧E≠0):=Lib.hid (by have:=HE.out;rw [if_neg h0] at this;exact ⟨this,by rw [←this];exact h0⟩)
  go_wp2
  go_ret
  exact ⟨by rw [←HE2.out.1];rfl,HB2.out,fun h1=>absurd h1 HE2.out.2⟩
end Go.Proofs.YtdegffffcbhjbaaGreatDoor.Un
end
section
namespace Go.Proofs.YtdegffffcbhjbaaGreatDoor.Fl
open Go.RowKit
structure Laid (w:World):Prop where
 g0:w.cell? ⟨2,0,none⟩=some (.string tOpen)
 g1:w.cell? ⟨2,1,none⟩=some (.string tMove)
 g2:w.cell? ⟨2,2,none⟩=some (.string tFx)
 g3:w.cell? ⟨2,3,none⟩=some (.string tScope)
 g4:w.cell? ⟨2,4,none⟩=some (.string tClose)
theorem Laid.below {w w':World} {B:Nat} (h:Laid w) (hb:Below B w w') (hB:w.heap.size≤B):Laid w' :=
 have lt:=Nat.lt_of_lt_of_le (World.block_lt_of_cell? w _ h.g0) hB
 ⟨(hb.cell (p:=⟨_,0,none⟩) lt).trans h.g0,(hb.cell (p:=⟨_,1,none⟩) lt).trans h.g1,(hb.cell (p:=⟨_,2,none⟩) lt).trans h.g2,(hb.cell (p:=⟨_,3,none⟩) lt).trans h.g3,(hb.cell (p:=⟨_,4,none⟩) lt).trans h.g4⟩
theorem Laid.drew {w:World} (h:Laid w):Laid w.drew:=⟨h.g0,h.g1,h.g2,h.g3,h.g4⟩
theorem at_arr0 (w:World):(Instr.index 262 (.agg #[.string tOpen,.string tMove,.string tFx,.string tScope,.string tClose]) (.int .i64 0)).run Tryz.prog w=.ok (.string tOpen) w:=by kernel_rfl
theorem at_arr1 (w:World):(Instr.index 262 (.agg #[.string tOpen,.string tMove,.string tFx,.string tScope,.string tClose]) (.int .i64 1)).run Tryz.prog w=.ok (.string tMove) w:=by kernel_rfl
theorem at_arr2 (w:World):(Instr.index 262 (.agg #[.string tOpen,.string tMove,.string tFx,.string tScope,.string tClose]) (.int .i64 2)).run Tryz.prog w=.ok (.string tFx) w:=by kernel_rfl
theorem at_arr3 (w:World):(Instr.index 262 (.agg #[.string tOpen,.string tMove,.string tFx,.string tScope,.string tClose]) (.int .i64 3)).run Tryz.prog w=.ok (.string tScope) w:=by kernel_rfl
theorem at_arr4 (w:World):(Instr.index 262 (.agg #[.string tOpen,.string tMove,.string tFx,.string tScope,.string tClose]) (.int .i64 4)).run Tryz.prog w=.ok (.string tClose) w:=by kernel_rfl
theorem ret_int {a b:Int} (h:a=b):Ending.returned (.int .i64 a)=.returned (.int .i64 b):=by rw [h]
theorem kindO_no {s:ByteArray} (h0:tOpen≠s) (h1:tMove≠s) (h2:tFx≠s) (h3:tScope≠s) (h4:tClose≠s):kindO s=-1:=by
 unfold kindO
 rw [if_neg (fun e=>h0 e.symm),if_neg (fun e=>h1 e.symm),if_neg (fun e=>h2 e.symm),if_neg (fun e=>h3 e.symm),if_neg (fun e=>h4 e.symm)]
set_option maxRecDepth 100000 in
set_option maxHeartbeats 4000000 in
theorem kindOf_any (s:ByteArray) (w:World) (hL:Laid w) :
 Calls Tryz.prog 141 #[.string s] w fun e w'=>e=.returned (.int .i64 (kindO s))∧w=w':=by
 obtain ⟨g0,g1,g2,g3,g4⟩:=hL
 obtain ⟨r,hr⟩:∃ r,kindO s=r:=⟨_,rfl⟩
 rw [hr]
 have HR:=Lib.hid hr
 clear hr
 obtain ⟨A,hA⟩:∃ A,tOpen=A:=⟨_,rfl⟩
 obtain ⟨B,hB⟩:∃ B,tMove=B:=⟨_,rfl⟩
 obtain ⟨C,hC⟩:∃ C,tFx=C:=⟨_,rfl⟩
 obtain ⟨D,hD⟩:∃ D,tScope=D:=⟨_,rfl⟩
 obtain ⟨E,hE⟩:∃ E,tClose=E:=⟨_,rfl⟩
 have i0:=at_arr0
 have i1:=at_arr1
 have i2:=at_arr2
 have i3:=at_arr3
 have i4:=at_arr4
 rw [hA] at g0
 rw [hB] at g1
 rw [hC] at g2
 rw [hD] at g3
 rw [hE] at g4
 rw [hA,hB,hC,hD,hE] at i0 i1 i2 i3 i4
 have HA:=Lib.hid hA
 have HBB:=Lib.hid hB
 have HCC:=Lib.hid hC
 have HDD:=Lib.hid hD
 have HEE:=Lib.hid hE
 clear hA hB hC hD hE
 cases hs0:(A.toList==s.toList) with
 | true =>
   have HS:=Lib.hid ((Lib.bytes_beq_iff A s).1 hs0)
   go_enter Tryz.func141,Tryz.ntmps141
   go_wp2
   refine wp_loop_rounds 1 ?_
   rw [rounds_succ]
   go_wp2
   go_ret
   exact ⟨ret_int (by rw [←HR.out,←HS.out,←HA.out];decide),rfl⟩
 | false =>
   have HS:=Lib.hid ((Lib.bytes_beq_false_iff A s).1 hs0)
   cases hs1:(B.toList==s.toList) with
   | true =>
     have HS1:=Lib.hid ((Lib.bytes_beq_iff B s).1 hs1)
     go_enter Tryz.func141,Tryz.ntmps141
     go_wp2
     refine wp_loop_rounds 2 ?_
     rw [rounds_succ]
     go_wp2
     rw [rounds_succ]
     go_wp2
     go_ret
     exact ⟨ret_int (by rw [←HR.out,←HS1.out,←HBB.out];decide),rfl⟩
   | false =>
     have HS1:=Lib.hid ((Lib.bytes_beq_false_iff B s).1 hs1)
     cases hs2:(C.toList==s.toList) with
     | true =>
       have HS2:=Lib.hid ((Lib.bytes_beq_iff C s).1 hs2)
       go_enter Tryz.func141,Tryz.ntmps141
       go_wp2
       refine wp_loop_rounds 3 ?_
       rw [rounds_succ]
       go_wp2
       rw [rounds_succ]
       go_wp2
       rw [rounds_succ]
       go_wp2
       go_ret
       exact ⟨ret_int (by rw [←HR.out,←HS2.out,←HCC.out];decide),rfl⟩
     | false =>
       have HS2:=Lib.hid ((Lib.bytes_beq_false_iff C s).1 hs2)
       cases hs3:(D.toList==s.toList) with
       | true =>
         have HS3:=Lib.hid ((Lib.bytes_beq_iff D s).1 hs3)
         go_enter Tryz.func141,Tryz.ntmps141
         go_wp2
         refine wp_loop_rounds 4 ?_
         rw [rounds_succ]
         go_wp2
         rw [rounds_succ]
         go_wp2
         rw [rounds_succ]
         go_wp2
         rw [rounds_succ]
         go_wp2
         go_ret
         exact ⟨ret_int (by rw [←HR.out,←HS3.out,←HDD.out];decide),rfl⟩
       | false =>
         have HS3:=Lib.hid ((Lib.bytes_beq_false_iff D s).1 hs3)
         cases hs4:(E.toList==s.toList) with
         | true =>
           have HS4:=Lib.hid ((Lib.bytes_beq_iff E s).1 hs4)
           go_enter Tryz.func141,Tryz.ntmps141
           go_wp2
           refine wp_loop_rounds 5 ?_
           rw [rounds_succ]
           go_wp2
           rw [rounds_succ]
           go_wp2
           rw [rounds_succ]
           go_wp2
           rw [rounds_succ]
           go_wp2
           rw [rounds_succ]
           go_wp2
           go_ret
           exact ⟨ret_int (by rw [←HR.out,←HS4.out,←HEE.out];decide),rfl⟩
         | false =>
           have HS4:=Lib.hid ((Lib.bytes_beq_false_iff E s).1 hs4)
           have hres:Hid (r=-1):=Lib.hid (by
            rw [←HR.out]
            exact kindO_no (by rw [HA.out];exact HS.out) (by rw [HBB.out];exact HS1.out) (by rw [HCC.out];exact HS2.out) (by rw [HDD.out];exact HS3.out) (by rw [HEE.out];exact HS4.out))
           go_enter Tryz.func141,Tryz.ntmps141
           go_wp2
           refine wp_loop_rounds 6 ?_
           rw [rounds_succ]
           go_wp2
           rw [rounds_succ]
           go_wp2
           rw [rounds_succ]
           go_wp2
           rw [rounds_succ]
           go_wp2
           rw [rounds_succ]
           go_wp2
           rw [rounds_succ]
           go_wp2
           go_ret
           exact ⟨ret_int hres.out.symm,rfl⟩
theorem below_drew' {B:Nat} {a w:World} (h:Below B a w):Below B a w.drew:=⟨h.os,h.tape,h.output,h.size,h.block⟩
end Go.Proofs.YtdegffffcbhjbaaGreatDoor.Fl
end
section
namespace Go.Proofs.YtdegffffcbhjbaaGreatDoor.Fl
open Go.RowKit
theorem cell_on {w w':World} {p:Addr} {v:Value} (hb:Below w.heap.size w w') (h:w.cell? p=some v):w'.cell? p=some v:=(hb.cell (World.block_lt_of_cell? w _ h)).trans h
abbrev zc:Array Value:=#[.string ⟨#[]⟩,.int .i64 0]
theorem list_flow:tFlow.toList=[102,108,111,119]:=by rw [ByteArray.toList_eq];rfl
theorem beq_flow (x:ByteArray):(x.toList==[102,108,111,119])=decide (x=tFlow):=by
 rw [←list_flow]
 cases h:(x.toList==tFlow.toList) with
 | true=>rw [decide_eq_true ((Lib.bytes_beq_iff x tFlow).1 h)]
 | false=>rw [decide_eq_false ((Lib.bytes_beq_false_iff x tFlow).1 h)]
def ParseAt (w wx:World) (A:Flow):Prop:=BoxE encF wx (w.heap.size+1) 143 A∧Below (w.heap.size+1) (w.alloc (.cells zc 143)) wx
set_option maxRecDepth 100000 in
set_option maxHeartbeats 8000000 in
theorem parse_any (v:Value) (ws:List ByteArray) (w:World) (h:StrsV w v ws) (hL:Laid w) :
 Calls Tryz.prog 104 #[v] w fun e w'=>e=.returned (.tuple #[aggL (parseF ws).1,.int .i64 (parseF ws).2])∧Below w.heap.size w w':=by
 have HV:=Lib.hid h
 obtain ⟨p,c,rfl,hcap,hm,hc⟩:=h
 have HB0:=Lib.hid ((Below.refl w.heap.size w).alloc (Nat.le_refl _) (.cells zc 143))
 have HX0:=Lib.hid (BoxE.new encF w zeroF 143)
 by_cases h3:ws.length=3
 ·match ws,h3 with
  | [x0,x1,x2],_ =>
    obtain ⟨b,o,rfl,k0'⟩:=hc 0 x0 rfl
    obtain ⟨b',o',e',k1⟩:=hc 1 x1 rfl
    cases e'
    obtain ⟨b',o',e',k2⟩:=hc 2 x2 rfl
    cases e'
    have k0:w.cell? ⟨b,o,none⟩=some (.string x0):=k0'
    have j0:=cell_on HB0.out k0
    have j1:=cell_on HB0.out k1
    have j2:=cell_on HB0.out k2
    have HNB:Hid (b≠w.heap.size):=Lib.hid (by have:=World.block_lt_of_cell? w _ k0;simp at this;omega)
    have HLT:Hid (b < w.heap.size):=Lib.hid (World.block_lt_of_cell? w _ k0)
    have HL0:=Lib.hid (hL.below HB0.out (Nat.le_refl _))
    rw [parse_three]
    obtain ⟨A,hA⟩:∃ A:Flow,(⟨x1,kindO x2⟩:Flow)=A:=⟨_,rfl⟩
    rw [hA]
    have HA:=Lib.hid hA
    clear hc hA k0' k0 k1 k2 hL hm hcap HV
    show Calls _ _ #[.slice (some ⟨b,o,none⟩) 3 c] _ _
    obtain ⟨W0,hW0⟩:∃ W0,w.alloc (.cells zc 143)=W0:=⟨_,rfl⟩
    have HSZ:Hid (W0.heap.size=w.heap.size+1):=Lib.hid (by rw [←hW0];simp)
    have HX1:Hid (BoxE encF W0 w.heap.size 143 zeroF):=Lib.hid (by rw [←hW0];exact HX0.out)
    rw [hW0] at HB0 HL0 j0 j1 j2
    clear HX0
    cases hx0:(x0.toList==[102,108,111,119]) with
    | false =>
      have hne:¬ (x0=tFlow∧rightF A=true):=fun e=>by
       rw [beq_flow,e.1] at hx0;simp at hx0
      rw [if_neg hne]
      have hxn:(!x0.toList==[102,108,111,119])=true:=by rw [hx0];rfl
      clear hne hx0
      go_enter Tryz.func104,Tryz.ntmps104
      go_wp2_with (refine wpList_store_el (E:=encF) rfl 143 (.tmp 2) (.tmp 14) rfl w.heap.size zeroF zeroF 143 rfl rfl HX1.out (by kernel_rfl) ?_;intro w8 hb8 hg8)
      have HF:=Lib.hid (HB0.out.grown hg8 HB0.out.size (fun j hj=>by cases hj;exact Nat.le_refl _))
      obtain ⟨t0,t1⟩:=box hb8
      clear hb8 hg8
      refine bodyPost_ret (v:=.tuple #[aggL zeroF,.int .i64 5]) (by simp [results,Tryz.results104,go_sem,t0,t1]) rfl ⟨rfl,HF.out⟩
    | true =>
      have hx:x0=tFlow:=by rw [beq_flow] at hx0;exact of_decide_eq_true hx0
      have hxn:(!x0.toList==[102,108,111,119])=false:=by rw [hx0];rfl
      have HE:Hid (∀ r,rightF A=r→(if x0=tFlow∧rightF A=true then (A,(0:Int)) else (zeroF,5))=if r=true then (A,0) else (zeroF,5)):=Lib.hid (fun r hr=>by
       rw [hr];cases r <;> simp [hx])
      obtain ⟨R,hR⟩:∃ R,(if x0=tFlow∧rightF A=true then (A,(0:Int)) else (zeroF,5))=R:=⟨_,rfl⟩
      rw [hR] at HE ⊢
      clear hR hx hx0
      go_enter Tryz.func104,Tryz.ntmps104
      go_upto_region 3 with (fail)
      have HW0:=Lib.hid hW0
      clear hW0 j0
      go_cut [4] (fun s4 wx=>s4=.pointer (some ⟨w.heap.size+1,0,none⟩)∧ParseAt w wx A)
      case first =>
       have hba:=(Below.refl W0.heap.size W0).alloc (Nat.le_refl _) (.cells zc 143)
       have n1:=cell_on hba j1
       have n2:=cell_on hba j2
       have y1:W0.drew.cell? ⟨b,o+1,none⟩=some (.string x1):=j1
       have y2:W0.drew.cell? ⟨b,o+2,none⟩=some (.string x2):=j2
       have z1:(W0.alloc (.cells zc 143)).drew.cell? ⟨b,o+1,none⟩=some (.string x1):=n1
       have z2:(W0.alloc (.cells zc 143)).drew.cell? ⟨b,o+2,none⟩=some (.string x2):=n2
       have HLa:=Lib.hid (HL0.out.below hba (Nat.le_refl _))
       have hbl:=fun C:Array Value=>(Below.refl W0.heap.size W0).alloc (Nat.le_refl _) (.cells C 143)
       have p1:=fun C:Array Value=>cell_on (hbl C) j1
       have p2:=fun C:Array Value=>cell_on (hbl C) j2
       clear hba hbl
       go_region_held3 (fun w'=>w'.cell? ⟨b,o+1,none⟩=some (.string x1)∧w'.cell? ⟨b,o+2,none⟩=some (.string x2))
        (first | (with_reducible exact ⟨j1,j2⟩) | (with_reducible exact ⟨y1,y2⟩) | (with_reducible exact ⟨n1,n2⟩) | (with_reducible exact ⟨z1,z2⟩) | exact ⟨p1 _,p2 _⟩ | fail)
        (first
         | (go_at_call 141;refine (kindOf_any x2 W0.drew HL0.out.drew).mono ?_;rintro e w' ⟨rfl,rfl⟩)
         | (go_at_call 141;refine (kindOf_any x2 (W0.alloc (.cells zc 143)).drew HLa.out.drew).mono ?_;rintro e w' ⟨rfl,rfl⟩)
         | fail)
       all_goals
        go_wp2_with fail
        go_meet
        case rel =>
         refine ⟨by rw [←HSZ.out],?_⟩
         exact ⟨by rw [←HSZ.out,←HA.out];exact BoxE.new encF W0 ⟨x1,kindO x2⟩ 143,by rw [HW0.out,←HSZ.out];exact below_drew' ((Below.refl W0.heap.size W0).alloc (Nat.le_refl _) _)⟩
      case rest =>
       obtain ⟨rfl,hP⟩:=hcut
       rename World=>wx
       obtain ⟨hx,hb⟩:=hP
       rw [HW0.out] at hb
       rw [←HSZ.out] at hb
       have HXR:=Lib.hid (HX1.out.keep hb (by rw [HSZ.out];omega))
       have HBX:=Lib.hid (HB0.out.trans (hb.mono (by rw [HSZ.out];omega)))
       have HX:=Lib.hid hx
       obtain ⟨d0,d1⟩:=box hx
       have hlt:w.heap.size < wx.heap.size:=by have:=hb.size;rw [HSZ.out] at this;omega
       have hgx:=hx.lt
       obtain ⟨r,hr⟩:∃ r,rightF A=r:=⟨_,rfl⟩
       have HRA:=Lib.hid (right_any A)
       rw [hr] at HRA
       have HER:=Lib.hid (HE.out r hr)
       clear hx hb j1 j2 hr
       go_wp2_with fail
       clear d0 d1
       refine (HRA.out wx).mono ?_
       rintro e w7 ⟨rfl,hb7⟩
       have HXR7:=Lib.hid (HXR.out.keep hb7 hlt)
       have HX7:=Lib.hid (HX.out.keep hb7 hgx)
       have HB7:=Lib.hid (HBX.out.trans (hb7.mono HBX.out.size))
       clear hb7
       cases r with
       | true =>
         obtain ⟨d0,d1⟩:=box HX7.out
         go_wp2_with (refine wpList_store_el (E:=encF) rfl 143 (.tmp 2) (.tmp 27) rfl w.heap.size zeroF A 143 rfl rfl HXR7.out (by kernel_rfl) ?_;intro w8 hb8 hg8)
         have HF:=Lib.hid (HB7.out.grown hg8 HB7.out.size (fun j hj=>by cases hj;exact Nat.le_refl _))
         obtain ⟨t0,t1⟩:=box hb8
         clear hb8 hg8
         refine bodyPost_ret (v:=.tuple #[aggL A,.int .i64 0]) (by simp [results,Tryz.results104,go_sem,t0,t1]) rfl ⟨by rw [HER.out];rfl,HF.out⟩
       | false =>
         go_wp2_with (refine wpList_store_el (E:=encF) rfl 143 (.tmp 2) (.tmp 26) rfl w.heap.size zeroF zeroF 143 rfl rfl HXR7.out (by kernel_rfl) ?_;intro w8 hb8 hg8)
         have HF:=Lib.hid (HB7.out.grown hg8 HB7.out.size (fun j hj=>by cases hj;exact Nat.le_refl _))
         obtain ⟨t0,t1⟩:=box hb8
         clear hb8 hg8
         refine bodyPost_ret (v:=.tuple #[aggL zeroF,.int .i64 5]) (by simp [results,Tryz.results104,go_sem,t0,t1]) rfl ⟨by rw [HER.out];rfl,HF.out⟩
 ·have HP:=Lib.hid (parse_len h3)
  rw [HP.out]
  obtain ⟨n,hn⟩:∃ n,ws.length=n:=⟨_,rfl⟩
  rw [hn] at h3 hcap hm ⊢
  unfold maxLen at hm
  have hnz:((n:Int) != 3)=true:=by simp;omega
  clear hc hn h3 HV
  go_enter Tryz.func104,Tryz.ntmps104
  go_wp2
  refine bodyPost_ret (v:=.tuple #[aggL zeroF,.int .i64 5]) (by simp [results,Tryz.results104,go_sem,zeroF]) rfl ⟨rfl,HB0.out⟩
end Go.Proofs.YtdegffffcbhjbaaGreatDoor.Fl
end
section
namespace Go.Proofs.YtdegffffcbhjbaaGreatDoor.Un
open Go.RowKit Go.Maps
set_option maxRecDepth 100000 in
set_option maxHeartbeats 8000000 in
theorem readFlow_any (v:Value) (ws:List ByteArray) (W:World) (B R m n:Nat) (c f e l:Value) (D:DataW Unit) (M:Mast) (hv:StrsV W v ws) (hlaid:Fl.Laid W) (h:RdAt W B R m c f e l n D M) (hB:B≤W.heap.size) (hL:M.flows.length≤1000) (hri:riseK Fl.Flow.code M.flows=true) :
 Calls Tryz.prog 65 #[.pointer (some ⟨R,0,none⟩),v] W (ReadTold W B R m n D { M with flows:=insK Fl.Flow.code M.flows (Fl.parseF ws).1 } (if (Fl.parseF ws).2=0 then Fl.addE M.flows (Fl.parseF ws).1 else (Fl.parseF ws).2)):=by
 have HP:=Lib.hid (Fl.parse_any v ws W hv hlaid)
 have HL:=Lib.hid hL
 obtain ⟨p,cp,rfl,_⟩:=hv
 obtain ⟨A,hA⟩:∃ A,(Fl.parseF ws).1=A:=⟨_,rfl⟩
 obtain ⟨E1,hE1⟩:∃ E1,(Fl.parseF ws).2=E1:=⟨_,rfl⟩
 rw [hA,hE1] at HP ⊢
 have HR:=Lib.hid h
 have HB:=Lib.hid hB
 have hAV:Fl.addE M.flows A=0→Fl.addV M.flows A=insK Fl.Flow.code M.flows A:=fun h0=>by unfold Fl.addV;rw [if_pos h0]
 have HAV:=Lib.hid hAV
 obtain ⟨E2,hE2⟩:∃ E2,Fl.addE M.flows A=E2:=⟨_,rfl⟩
 obtain ⟨MV,hMV⟩:∃ MV,Fl.addV M.flows A=MV:=⟨_,rfl⟩
 have HAD:=Lib.hid (fun (X:World) (hX:Fl.FlowsV X f M.flows)=>Fl.add_own f M.flows A X hX hri hL)
 rw [hE2] at HAV ⊢
 rw [hMV] at HAV
 simp only [hE2,hMV] at HAD
 obtain ⟨nw,hnw⟩:∃ nw,ws.length=nw:=⟨_,rfl⟩
 rw [hnw] at HP ⊢
 obtain ⟨E,hE⟩:∃ E,(if E1=0 then E2 else E1)=E:=⟨_,rfl⟩
 obtain ⟨MM,hMM⟩:∃ MM:Mast,({ M with flows:=insK Fl.Flow.code M.flows A }:Mast)=MM:=⟨_,rfl⟩
 rw [hE,hMM]
 have HE:=Lib.hid hE
 have HMM:=Lib.hid hMM
 clear hA hE1 hE2 hMV h hB hL hri hlaid hAV hnw hE hMM
 go_enter Tryz.func65,Tryz.ntmps65
 go_wp2_with fail
 refine HP.out.mono ?_
 rintro en w1 ⟨rfl,hb1⟩
 have hb2:=hb1.alloc hb1.size (.cells #[.string A.code,.int .i64 A.kind] 143)
 have HR2:=Lib.hid (HR.out.below hb2)
 have HX2:=Lib.hid (BoxE.new Fl.encF w1 A 143)
 have HB2:=Lib.hid (hb2.mono HB.out)
 have HS2:Hid (B≤(w1.alloc (.cells #[.string A.code,.int .i64 A.kind] 143)).heap.size):=Lib.hid (Nat.le_trans HB.out hb2.size)
 clear hb1 hb2
 by_cases h0:E1=0
 ·subst h0
  obtain ⟨W2,hW2⟩:∃ W2,w1.alloc (.cells #[.string A.code,.int .i64 A.kind] 143)=W2:=⟨_,rfl⟩
  rw [hW2] at HR2 HX2 HB2 HS2
  go_wp2_with fail
  clear hW2
  obtain ⟨k0,k1,k2,k3,k4,k5,k6,k7,k8⟩:=(show NineAt W2.drew R c f e l M from HR2.out.nine.kept ⟨rfl,rfl,rfl,Nat.le_refl _,fun _ _=>rfl⟩)
  obtain ⟨j0,j1⟩:=Fl.box (show BoxE Fl.encF W2.drew w1.heap.size 143 A from HX2.out)
  have HCV:Hid (Fl.FlowsV W2.drew f M.flows):=Lib.hid (ElsV.keep (w:=W2) (els_of_own HR2.out.flows) ⟨rfl,rfl,rfl,Nat.le_refl _,fun _ _=>rfl⟩)
  clear k0 k2 k3 k4 k5 k6 k7 k8
  go_region_with (first
   | (go_at_call 105;refine (HAD.out W2.drew HCV.out).mono ?_;rintro en w3 ⟨v9,rfl,ho9,hb9⟩;obtain ⟨p9,c9,rfl,_,_⟩:=els_of_own ho9;have HR3:=Lib.hid (RdAt.below (W:=W2.drew) (HR2.out.below (W':=W2.drew) ⟨rfl,rfl,rfl,Nat.le_refl _,fun _ _=>rfl⟩) hb9);have hz:=HR3.out.nine.c1;have hfz:=HR3.out.free 1)
   | fail)
  all_goals
   have HE2:Hid (E2=E):=Lib.hid (by rw [←HE.out,if_pos (by trivial)])
   have HFIN:Hid (E=0→RdAt (w3.setCell ⟨R,1,none⟩ (.slice p9 MV.length c9)) B R m c (.slice p9 MV.length c9) e l n D MM):=Lib.hid (fun h0=>by
    have hmv:=HAV.out (by rw [HE2.out];exact h0)
    rw [←HMM.out]
    refine rd_stored 1 _ HR3.out.box rfl HR3.out.chart ?_ HR3.out.ents HR3.out.lines HR3.out.map HR3.out.geR HR3.out.geM
    show w3.ownsRow B _ 2 _ (insK Fl.Flow.code M.flows A).length (flat Fl.encF (insK Fl.Flow.code M.flows A))
    rw [←hmv]
    exact row_base ho9 HS2.out)
   have HBF:Hid (Below B W (w3.setCell ⟨R,1,none⟩ (.slice p9 MV.length c9))):=Lib.hid (below_stored (HB2.out.trans ((below_undrawn hb9).mono HS2.out)) HR3.out.geR 1 _)
   clear ho9 hb9 hz hfz
   go_wp2
   go_ret
   exact ⟨by rw [←HE2.out];rfl,HBF.out,fun h0=>⟨_,_,_,_,HFIN.out h0⟩⟩
 ·have HE2:Hid (E1=E∧E≠0):=Lib.hid (by have:=HE.out;rw [if_neg h0] at this;exact ⟨this,by rw [←this];exact h0⟩)
  go_wp2
  go_ret
  exact ⟨by rw [←HE2.out.1];rfl,HB2.out,fun h1=>absurd h1 HE2.out.2⟩
end Go.Proofs.YtdegffffcbhjbaaGreatDoor.Un
end
section
namespace Go.Proofs.YtdegffffcbhjbaaGreatDoor.Un
open Go.RowKit
abbrev encK:Enc (ByteArray × ByteArray × ByteArray):=⟨fun e=>[.string e.1,.string e.2.1,.string e.2.2],3,fun _=>rfl,by decide,fun _ v hv=>by simp at hv;rcases hv with rfl | rfl | rfl <;> rfl⟩
theorem key3 {w:World} {b:Nat} {t:TypeId} {x y z:ByteArray} (h:BoxE encK w b t (x,y,z)):w.cell? ⟨b,0,none⟩=some (.string x)∧w.cell? ⟨b,1,none⟩=some (.string y)∧w.cell? ⟨b,2,none⟩=some (.string z):=⟨h.at0 0 _ rfl,h.at0 1 _ rfl,h.at0 2 _ rfl⟩
set_option maxRecDepth 100000 in
set_option maxHeartbeats 2000000 in
theorem keyOf_any (v:Value) (ws:List ByteArray) (w:World) (h:StrsV w v ws) (hf:formedW ws=true) :
 Calls Tryz.prog 67 #[v] w fun en w'=>en=.returned (aggK (wd ws 0) (keyB ws) (keyC ws))∧Below w.heap.size w w':=by
 have HB0:=Lib.hid ((Below.refl w.heap.size w).alloc (Nat.le_refl _) (.cells #[.string emp,.string emp,.string emp] 154))
 have HX0:=Lib.hid (BoxE.new encK w (emp,emp,emp) 154)
 have h1:=h.keep HB0.out
 obtain ⟨p,c,rfl,hcap,hm,hc⟩:=h1
 unfold maxLen at hm
 have fin:∀ (w1:World) (a b d:ByteArray),BoxE encK w1 w.heap.size 154 (a,b,d)→(w.alloc (.cells #[.string emp,.string emp,.string emp] 154)).grownBy w1 (some w.heap.size)→Below w.heap.size w w1:=fun w1 a b d _ hg=>HB0.out.grown hg HB0.out.size (fun k hk=>by cases hk;exact Nat.le_refl _)
 have HF:=Lib.hid fin
 clear fin
 rcases formed_ways hf with ⟨h0,a,b,rfl,ha,hb⟩ | ⟨h0,a,b,d,rfl,ha,hb,hd⟩ | ⟨h0,a,h2,ha⟩
 ·obtain ⟨g,o,rfl,k0⟩:=hc 0 tEntity rfl
  obtain ⟨g',o',e1,k1⟩:=hc 1 a rfl
  cases e1
  rw [Nat.add_zero] at k0
  have g1:(tEntity.toList==[101,110,116,105,116,121])=true:=by rw [qEntity];decide
  have HK:Hid (aggK (wd [tEntity,a,b] 0) (keyB [tEntity,a,b]) (keyC [tEntity,a,b])=aggK ⟨#[101,110,116,105,116,121]⟩ a emp):=Lib.hid rfl
  rw [HK.out]
  clear hc h0 hf h
  go_enter Tryz.func67,Tryz.ntmps67
  go_wp2_with (refine wpList_store_el (E:=encK) rfl 154 (.tmp 2) (.tmp 11) rfl w.heap.size (emp,emp,emp) (⟨#[101,110,116,105,116,121]⟩,a,emp) 154 rfl rfl HX0.out (by kernel_rfl) ?_;intro w2 hb2 hg2)
  have HF2:=Lib.hid (HF.out _ _ _ _ hb2 hg2)
  obtain ⟨d0,d1,d2⟩:=key3 hb2
  clear hb2 hg2
  exact bodyPost_ret (v:=aggK ⟨#[101,110,116,105,116,121]⟩ a emp) (by simp [results,Tryz.results67,go_sem,d0,d1,d2]) rfl ⟨rfl,HF2.out⟩
 ·obtain ⟨g,o,rfl,k0⟩:=hc 0 tMap rfl
  obtain ⟨g',o',e1,k1⟩:=hc 1 a rfl
  cases e1
  obtain ⟨g',o',e1,k2⟩:=hc 2 b rfl
  cases e1
  rw [Nat.add_zero] at k0
  have g1:(tMap.toList==[101,110,116,105,116,121])=false:=by rw [qEntity];decide
  have g2:(tMap.toList==[109,97,112])=true:=by rw [qMap];decide
  have HK:Hid (aggK (wd [tMap,a,b,d] 0) (keyB [tMap,a,b,d]) (keyC [tMap,a,b,d])=aggK ⟨#[109,97,112]⟩ a b):=Lib.hid rfl
  rw [HK.out]
  clear hc h0 hf h
  obtain ⟨W,hW⟩:∃ W,w.alloc (.cells #[.string emp,.string emp,.string emp] 154)=W:=⟨_,rfl⟩
  rw [hW] at HB0 HX0 HF k0 k1 k2
  go_enter Tryz.func67,Tryz.ntmps67
  go_wp2_with fail
  clear hW
  obtain ⟨W2,hW2⟩:∃ W2,W.drew=W2:=⟨_,rfl⟩
  have j1:W2.cell? ⟨g,o+1,none⟩=some (.string a):=by rw [←hW2];exact k1
  have j2:W2.cell? ⟨g,o+2,none⟩=some (.string b):=by rw [←hW2];exact k2
  have HX2:Hid (BoxE encK W2 w.heap.size 154 (emp,emp,emp)):=Lib.hid (by rw [←hW2];exact HX0.out)
  have HG2:Hid (W.grownBy W2 (some w.heap.size)):=Lib.hid (by rw [←hW2];exact ⟨rfl,rfl,rfl,Nat.le_refl _,fun _ _ _=>rfl⟩)
  refine wp_region_still_tail 7 (by kernel_rfl) (by kernel_rfl) ?_
  simp only [List.take_succ_cons,List.take_zero,List.drop_succ_cons,List.drop_zero]
  rw [show ({ heap:=W.heap,tape:=W.tape,drawn:=W.drawn+1,os:=W.os,output:=W.output }:World)=W2 from hW2]
  clear hW2 k0 k1 k2
  repeat still_step
  refine wpStill_nil ?_
  clear j1 j2
  go_wp2_with (refine wpList_store_el (E:=encK) rfl 154 (.tmp 2) (.tmp 20) rfl w.heap.size (emp,emp,emp) (⟨#[109,97,112]⟩,a,b) 154 rfl rfl HX2.out (by kernel_rfl) ?_;intro w2 hb2 hg2)
  have HF2:=Lib.hid (HF.out _ _ _ _ hb2 (HG2.out.trans hg2))
  obtain ⟨d0,d1,d2⟩:=key3 hb2
  clear hb2 hg2
  exact bodyPost_ret (v:=aggK ⟨#[109,97,112]⟩ a b) (by simp [results,Tryz.results67,go_sem,d0,d1,d2]) rfl ⟨rfl,HF2.out⟩
 ·obtain ⟨x,hx⟩:∃ x,wd ws 0=x:=⟨_,rfl⟩
  rw [hx] at h0 h2
  subst h2
  obtain ⟨g,o,rfl,k0⟩:=hc 0 x rfl
  rw [Nat.add_zero] at k0
  have n1:x≠tEntity:=by rcases h0 with h | h | h | h | h <;> rw [h] <;> decide
  have n2:x≠tMap:=by rcases h0 with h | h | h | h | h <;> rw [h] <;> decide
  have g1:(x.toList==[101,110,116,105,116,121])=false:=by rw [qEntity];exact decide_eq_false n1
  have g2:(x.toList==[109,97,112])=false:=by rw [qMap];exact decide_eq_false n2
  have HK:Hid (aggK (wd [x,a] 0) (keyB [x,a]) (keyC [x,a])=aggK x emp emp):=Lib.hid (by
   have e0:wd [x,a] 0=x:=rfl
   unfold keyB keyC
   rw [e0,if_neg n1,if_neg n2,if_neg n1,if_neg n2])
  rw [HK.out]
  clear hc h0 hf h n1 n2 hx
  go_enter Tryz.func67,Tryz.ntmps67
  go_wp2_with (refine wpList_store_el (E:=encK) rfl 154 (.tmp 2) (.tmp 24) rfl w.heap.size (emp,emp,emp) (x,emp,emp) 154 rfl rfl HX0.out (by kernel_rfl) ?_;intro w2 hb2 hg2)
  have HF2:=Lib.hid (HF.out _ _ _ _ hb2 hg2)
  obtain ⟨d0,d1,d2⟩:=key3 hb2
  clear hb2 hg2
  exact bodyPost_ret (v:=aggK x emp emp) (by simp [results,Tryz.results67,go_sem,d0,d1,d2]) rfl ⟨rfl,HF2.out⟩
end Go.Proofs.YtdegffffcbhjbaaGreatDoor.Un
end
section
namespace Go.Proofs.YtdegffffcbhjbaaGreatDoor.Un
open Go.RowKit Go.Maps
set_option maxRecDepth 100000 in
set_option maxHeartbeats 4000000 in
theorem keep_cur (v:Value) (a:ByteArray) (W:World) (B R m n:Nat) (c f e l:Value) (D:DataW Unit) (M:Mast) (hv:StrsV W v [tGroup,a]) (h:RdAt W B R m c f e l n D M) :
 Calls Tryz.prog 68 #[.pointer (some ⟨R,0,none⟩),v] W (ReadTold W B R m n D { M with cur:=a } 0):=by
 obtain ⟨p,cp,rfl,_,_,hc⟩:=hv
 obtain ⟨g,o,rfl,k0⟩:=hc 0 tGroup rfl
 obtain ⟨g',o',e1,k1⟩:=hc 1 a rfl
 cases e1
 rw [Nat.add_zero] at k0
 have g0:(tGroup.toList==[101,110,116,105,116,121])=false:=by rw [qEntity];decide
 have g1:(tGroup.toList==[109,97,112])=false:=by rw [qMap];decide
 have gt:(tGroup.toList==[103,114,111,117,112])=true:=by rw [qGroup];decide
 have HF:Hid (RdAt (W.setCell ⟨R,4,none⟩ (.string a)) B R m c f e l n D { M with cur:=a }):=Lib.hid (rd_stored 4 _ h.box rfl h.chart h.flows h.ents h.lines h.map h.geR h.geM)
 have HB:Hid (Below B W (W.setCell ⟨R,4,none⟩ (.string a))):=Lib.hid (below_stored (Below.refl B W) h.geR 4 _)
 obtain ⟨MM,hMM⟩:∃ MM:Mast,({ M with cur:=a }:Mast)=MM:=⟨_,rfl⟩
 rw [hMM] at HF ⊢
 have hz:=h.nine.c4
 have hfz:=h.free 4
 clear hc hMM h
 go_enter Tryz.func68,Tryz.ntmps68
 go_wp2
 go_ret
 exact ⟨rfl,HB.out,fun _=>⟨_,_,_,_,HF.out⟩⟩
set_option maxRecDepth 100000 in
set_option maxHeartbeats 4000000 in
theorem keep_res (v:Value) (a:ByteArray) (W:World) (B R m n:Nat) (c f e l:Value) (D:DataW Unit) (M:Mast) (hv:StrsV W v [tReserve,a]) (h:RdAt W B R m c f e l n D M) :
 Calls Tryz.prog 68 #[.pointer (some ⟨R,0,none⟩),v] W (ReadTold W B R m n D { M with res:=a } 0):=by
 obtain ⟨p,cp,rfl,_,_,hc⟩:=hv
 obtain ⟨g,o,rfl,k0⟩:=hc 0 tReserve rfl
 obtain ⟨g',o',e1,k1⟩:=hc 1 a rfl
 cases e1
 rw [Nat.add_zero] at k0
 have g0:(tReserve.toList==[101,110,116,105,116,121])=false:=by rw [qEntity];decide
 have g1:(tReserve.toList==[109,97,112])=false:=by rw [qMap];decide
 have g2:(tReserve.toList==[103,114,111,117,112])=false:=by rw [qGroup];decide
 have gt:(tReserve.toList==[114,101,115,101,114,118,101])=true:=by rw [qReserve];decide
 have HF:Hid (RdAt (W.setCell ⟨R,5,none⟩ (.string a)) B R m c f e l n D { M with res:=a }):=Lib.hid (rd_stored 5 _ h.box rfl h.chart h.flows h.ents h.lines h.map h.geR h.geM)
 have HB:Hid (Below B W (W.setCell ⟨R,5,none⟩ (.string a))):=Lib.hid (below_stored (Below.refl B W) h.geR 5 _)
 obtain ⟨MM,hMM⟩:∃ MM:Mast,({ M with res:=a }:Mast)=MM:=⟨_,rfl⟩
 rw [hMM] at HF ⊢
 have hz:=h.nine.c5
 have hfz:=h.free 5
 clear hc hMM h
 go_enter Tryz.func68,Tryz.ntmps68
 go_wp2
 go_ret
 exact ⟨rfl,HB.out,fun _=>⟨_,_,_,_,HF.out⟩⟩
set_option maxRecDepth 100000 in
set_option maxHeartbeats 4000000 in
theorem keep_dif (v:Value) (a:ByteArray) (W:World) (B R m n:Nat) (c f e l:Value) (D:DataW Unit) (M:Mast) (hv:StrsV W v [tDiffer,a]) (h:RdAt W B R m c f e l n D M) :
 Calls Tryz.prog 68 #[.pointer (some ⟨R,0,none⟩),v] W (ReadTold W B R m n D { M with dif:=a } 0):=by
 obtain ⟨p,cp,rfl,_,_,hc⟩:=hv
 obtain ⟨g,o,rfl,k0⟩:=hc 0 tDiffer rfl
 obtain ⟨g',o',e1,k1⟩:=hc 1 a rfl
 cases e1
 rw [Nat.add_zero] at k0
 have g0:(tDiffer.toList==[101,110,116,105,116,121])=false:=by rw [qEntity];decide
 have g1:(tDiffer.toList==[109,97,112])=false:=by rw [qMap];decide
 have g2:(tDiffer.toList==[103,114,111,117,112])=false:=by rw [qGroup];decide
 have g3:(tDiffer.toList==[114,101,115,101,114,118,101])=false:=by rw [qReserve];decide
 have gt:(tDiffer.toList==[100,105,102,102,101,114])=true:=by rw [qDiffer];decide
 have HF:Hid (RdAt (W.setCell ⟨R,6,none⟩ (.string a)) B R m c f e l n D { M with dif:=a }):=Lib.hid (rd_stored 6 _ h.box rfl h.chart h.flows h.ents h.lines h.map h.geR h.geM)
 have HB:Hid (Below B W (W.setCell ⟨R,6,none⟩ (.string a))):=Lib.hid (below_stored (Below.refl B W) h.geR 6 _)
 obtain ⟨MM,hMM⟩:∃ MM:Mast,({ M with dif:=a }:Mast)=MM:=⟨_,rfl⟩
 rw [hMM] at HF ⊢
 have hz:=h.nine.c6
 have hfz:=h.free 6
 clear hc hMM h
 go_enter Tryz.func68,Tryz.ntmps68
 go_wp2
 go_ret
 exact ⟨rfl,HB.out,fun _=>⟨_,_,_,_,HF.out⟩⟩
set_option maxRecDepth 100000 in
set_option maxHeartbeats 4000000 in
theorem keep_min (v:Value) (a:ByteArray) (W:World) (B R m n:Nat) (c f e l:Value) (D:DataW Unit) (M:Mast) (hv:StrsV W v [tMinor,a]) (h:RdAt W B R m c f e l n D M) :
 Calls Tryz.prog 68 #[.pointer (some ⟨R,0,none⟩),v] W (ReadTold W B R m n D { M with min:=a } 0):=by
 obtain ⟨p,cp,rfl,_,_,hc⟩:=hv
 obtain ⟨g,o,rfl,k0⟩:=hc 0 tMinor rfl
 obtain ⟨g',o',e1,k1⟩:=hc 1 a rfl
 cases e1
 rw [Nat.add_zero] at k0
 have g0:(tMinor.toList==[101,110,116,105,116,121])=false:=by rw [qEntity];decide
 have g1:(tMinor.toList==[109,97,112])=false:=by rw [qMap];decide
 have g2:(tMinor.toList==[103,114,111,117,112])=false:=by rw [qGroup];decide
 have g3:(tMinor.toList==[114,101,115,101,114,118,101])=false:=by rw [qReserve];decide
 have g4:(tMinor.toList==[100,105,102,102,101,114])=false:=by rw [qDiffer];decide
 have gt:(tMinor.toList==[109,105,110,111,114])=true:=by rw [qMinor];decide
 have HF:Hid (RdAt (W.setCell ⟨R,7,none⟩ (.string a)) B R m c f e l n D { M with min:=a }):=Lib.hid (rd_stored 7 _ h.box rfl h.chart h.flows h.ents h.lines h.map h.geR h.geM)
 have HB:Hid (Below B W (W.setCell ⟨R,7,none⟩ (.string a))):=Lib.hid (below_stored (Below.refl B W) h.geR 7 _)
 obtain ⟨MM,hMM⟩:∃ MM:Mast,({ M with min:=a }:Mast)=MM:=⟨_,rfl⟩
 rw [hMM] at HF ⊢
 have hz:=h.nine.c7
 have hfz:=h.free 7
 clear hc hMM h
 go_enter Tryz.func68,Tryz.ntmps68
 go_wp2
 go_ret
 exact ⟨rfl,HB.out,fun _=>⟨_,_,_,_,HF.out⟩⟩
set_option maxRecDepth 100000 in
set_option maxHeartbeats 4000000 in
theorem keep_stk (v:Value) (a:ByteArray) (W:World) (B R m n:Nat) (c f e l:Value) (D:DataW Unit) (M:Mast) (hv:StrsV W v [tStake,a]) (h:RdAt W B R m c f e l n D M) :
 Calls Tryz.prog 68 #[.pointer (some ⟨R,0,none⟩),v] W (ReadTold W B R m n D { M with stk:=a } 0):=by
 obtain ⟨p,cp,rfl,_,_,hc⟩:=hv
 obtain ⟨g,o,rfl,k0⟩:=hc 0 tStake rfl
 obtain ⟨g',o',e1,k1⟩:=hc 1 a rfl
 cases e1
 rw [Nat.add_zero] at k0
 have g0:(tStake.toList==[101,110,116,105,116,121])=false:=by rw [qEntity];decide
 have g1:(tStake.toList==[109,97,112])=false:=by rw [qMap];decide
 have g2:(tStake.toList==[103,114,111,117,112])=false:=by rw [qGroup];decide
 have g3:(tStake.toList==[114,101,115,101,114,118,101])=false:=by rw [qReserve];decide
 have g4:(tStake.toList==[100,105,102,102,101,114])=false:=by rw [qDiffer];decide
 have g5:(tStake.toList==[109,105,110,111,114])=false:=by rw [qMinor];decide
 have gt:(tStake.toList==[115,116,97,107,101])=true:=by rw [qStake];decide
 have HF:Hid (RdAt (W.setCell ⟨R,8,none⟩ (.string a)) B R m c f e l n D { M with stk:=a }):=Lib.hid (rd_stored 8 _ h.box rfl h.chart h.flows h.ents h.lines h.map h.geR h.geM)
 have HB:Hid (Below B W (W.setCell ⟨R,8,none⟩ (.string a))):=Lib.hid (below_stored (Below.refl B W) h.geR 8 _)
 obtain ⟨MM,hMM⟩:∃ MM:Mast,({ M with stk:=a }:Mast)=MM:=⟨_,rfl⟩
 rw [hMM] at HF ⊢
 have hz:=h.nine.c8
 have hfz:=h.free 8
 clear hc hMM h
 go_enter Tryz.func68,Tryz.ntmps68
 go_wp2
 go_ret
 exact ⟨rfl,HB.out,fun _=>⟨_,_,_,_,HF.out⟩⟩
end Go.Proofs.YtdegffffcbhjbaaGreatDoor.Un
end
section
namespace Go.Proofs.YtdegffffcbhjbaaGreatDoor.Un
open Go.RowKit Go.Maps
def LineTold (W:World) (B R m n:Nat) (M:Mast) (E:Int) (en:Ending) (W':World):Prop :=
 en=.returned (.int .i64 E)∧Below B W W'∧(E=0→∃ c f e l D,RdAt W' B R m c f e l n D M∧StoodOk D M)
theorem RdAt.mono {W:World} {B R m n k:Nat} {c f e l:Value} {D:DataW Unit} {M:Mast} (h:RdAt W B R m c f e l n D M) (hk:n≤k):RdAt W B R m c f e l k D M :=
 ⟨h.box,h.chart,h.flows,h.ents,h.lines,h.map.mono hk,h.geR,h.geM⟩
theorem RdAt.mapTurned {W W':World} {B R m n k:Nat} {c f e l:Value} {D D':DataW Unit} {M:Mast} (h:RdAt W B R m c f e l n D M) (hg:W.grownBy W' (some m)) (hm:MapRd W' m k D'):RdAt W' B R m c f e l k D' M:=by
 have hne:∀ {B':Nat} {e':TypeId} {s q:Nat} {v:Value} {xs:List Value},W.ownsRow B' e' s v q xs→v.ownBlock=none∨v.ownBlock≠some m:=fun hr=>.inr (map_apart h.map hr).symm
 refine ⟨(hg.block R h.lt (fun e0=>?_)).trans h.box,h.chart.kept hg (hne h.chart),h.flows.kept hg (hne h.flows),h.ents.kept hg (hne h.ents),h.lines.kept hg (hne h.lines),hm,h.geR,h.geM⟩
 cases e0
 obtain ⟨es,cl,hb,_⟩:=h.map
 have:=h.box
 unfold BoxRd at this
 rw [hb] at this;cases this
set_option maxRecDepth 100000 in
set_option maxHeartbeats 8000000 in
theorem read_head (v:Value) (ws:List ByteArray) (W0 W:World) (R m n:Nat) (c f e l:Value) (D:DataW Unit) (M:Mast) (hv0:StrsV W0 v ws) (h0:0 < ws.length) (hl:Laid W0) (hlf:Fl.Laid W0) (hb:Below W0.heap.size W0 W) (h:RdAt W W0.heap.size R m c f e l n D M) (hst:StoodOk D M) (hs:Sane M)
 (hw:wd ws 0=tAccount∨wd ws 0=Fl.tFlow∨formedW ws=false) :
 Calls Tryz.prog 44 #[.pointer (some ⟨R,0,none⟩),v] W (LineTold W W0.heap.size R m (n+1) (stepV M ws) (stepE M ws)):=by
 have hv:=hv0.keep hb
 obtain ⟨x0,hx0⟩:∃ x,ws[0]?=some x:=⟨_,List.getElem?_eq_getElem h0⟩
 have hwd:wd ws 0=x0:=wd_of hx0
 have q1:=qAccount x0
 have q2:=qFlow x0
 by_cases w1:x0=tAccount
 ·rw [decide_eq_true w1] at q1
  have HV:Hid (stepV M ws={ M with chart:=insL M.chart (parseA ws).1 }):=Lib.hid (by unfold stepV;rw [if_pos (hwd.trans w1)])
  have HE:Hid (stepE M ws=(if (parseA ws).2=0 then addE M.chart (parseA ws).1 else (parseA ws).2)):=Lib.hid (by unfold stepE;rw [if_pos (hwd.trans w1)])
  have HRA:=Lib.hid (readAccount_any v ws W W0.heap.size R m n c f e l D M hv (hl.below hb (Nat.le_refl _)) h hb.size (by have:=hs.lc;omega))
  rw [←HV.out,←HE.out] at HRA
  have HSS:Hid (StoodOk D (stepV M ws)):=Lib.hid (by rw [HV.out];exact hst.same rfl rfl rfl rfl rfl rfl rfl)
  obtain ⟨E,hE⟩:∃ E,stepE M ws=E:=⟨_,rfl⟩
  obtain ⟨N,hN⟩:∃ N,stepV M ws=N:=⟨_,rfl⟩
  rw [hE,hN] at HRA ⊢
  rw [hN] at HSS
  obtain ⟨p,cp,rfl,_,_,hc⟩:=hv
  obtain ⟨g,o,rfl,k0⟩:=hc 0 x0 hx0
  rw [Nat.add_zero] at k0
  obtain ⟨nw,hnw⟩:∃ nw,ws.length=nw:=⟨_,rfl⟩
  rw [hnw] at HRA h0 ⊢
  clear hE hN hc hx0 hwd w1 hv0 hl hlf hst hs h hw HV HE hnw
  go_enter Tryz.func44,Tryz.ntmps44
  go_wp2_with fail
  refine HRA.out.mono ?_
  rintro en w1 ⟨rfl,hb1,hrd⟩
  have HB1:=Lib.hid hb1
  have HRD:=Lib.hid hrd
  clear hb1 hrd
  go_wp2
  go_ret
  exact ⟨rfl,HB1.out,fun h0=>by
   obtain ⟨c,f,e,l,hr⟩:=HRD.out h0
   exact ⟨c,f,e,l,D,hr.mono (Nat.le_succ _),HSS.out⟩⟩
 ·rw [decide_eq_false w1] at q1
  by_cases w2:x0=Fl.tFlow
  ·rw [decide_eq_true w2] at q2
   have HV:Hid (stepV M ws={ M with flows:=insK Fl.Flow.code M.flows (Fl.parseF ws).1 }):=Lib.hid (by unfold stepV;rw [hwd,if_neg w1,if_pos w2])
   have HE:Hid (stepE M ws=(if (Fl.parseF ws).2=0 then Fl.addE M.flows (Fl.parseF ws).1 else (Fl.parseF ws).2)):=Lib.hid (by unfold stepE;rw [hwd,if_neg w1,if_pos w2])
   have HRA:=Lib.hid (readFlow_any v ws W W0.heap.size R m n c f e l D M hv (hlf.below hb (Nat.le_refl _)) h hb.size (by have:=hs.lf;omega) (Fl.rise_codes hs.fl))
   rw [←HV.out,←HE.out] at HRA
   have HSS:Hid (StoodOk D (stepV M ws)):=Lib.hid (by rw [HV.out];exact hst.same rfl rfl rfl rfl rfl rfl rfl)
   obtain ⟨E,hE⟩:∃ E,stepE M ws=E:=⟨_,rfl⟩
   obtain ⟨N,hN⟩:∃ N,stepV M ws=N:=⟨_,rfl⟩
   rw [hE,hN] at HRA ⊢
   rw [hN] at HSS
   obtain ⟨p,cp,rfl,_,_,hc⟩:=hv
   obtain ⟨g,o,rfl,k0⟩:=hc 0 x0 hx0
   rw [Nat.add_zero] at k0
   obtain ⟨nw,hnw⟩:∃ nw,ws.length=nw:=⟨_,rfl⟩
   rw [hnw] at HRA h0 ⊢
   clear hE hN hc hx0 hwd w1 w2 hv0 hl hlf hst hs h hw HV HE hnw
   go_enter Tryz.func44,Tryz.ntmps44
   go_wp2_with fail
   refine HRA.out.mono ?_
   rintro en w1 ⟨rfl,hb1,hrd⟩
   have HB1:=Lib.hid hb1
   have HRD:=Lib.hid hrd
   clear hb1 hrd
   go_wp2
   go_ret
   exact ⟨rfl,HB1.out,fun h0=>by
    obtain ⟨c,f,e,l,hr⟩:=HRD.out h0
    exact ⟨c,f,e,l,D,hr.mono (Nat.le_succ _),HSS.out⟩⟩
  ·rw [decide_eq_false w2] at q2
   have hff:formedW ws=false:=by
    rcases hw with hw | hw | hw
    ·exact absurd (hwd.symm.trans hw) w1
    ·exact absurd (hwd.symm.trans hw) w2
    ·exact hw
   have HE:Hid (stepE M ws=5):=Lib.hid (by unfold stepE;rw [hwd,if_neg w1,if_neg w2,if_pos hff])
   have HFO:=Lib.hid (formed_any v ws W hv h0)
   rw [hff] at HFO
   obtain ⟨E,hE⟩:∃ E,stepE M ws=E:=⟨_,rfl⟩
   obtain ⟨N,hN⟩:∃ N,stepV M ws=N:=⟨_,rfl⟩
   rw [hE] at HE
   rw [hE,hN]
   obtain ⟨p,cp,rfl,_,_,hc⟩:=hv
   obtain ⟨g,o,rfl,k0⟩:=hc 0 x0 hx0
   rw [Nat.add_zero] at k0
   obtain ⟨nw,hnw⟩:∃ nw,ws.length=nw:=⟨_,rfl⟩
   rw [hnw] at HFO h0 ⊢
   clear hE hN hc hx0 hwd w1 w2 hv0 hl hlf hst hs h hw hff hnw
   go_enter Tryz.func44,Tryz.ntmps44
   go_wp2_with fail
   refine HFO.out.mono ?_
   rintro en w1 ⟨rfl,rfl⟩
   go_wp2
   go_ret
   exact ⟨by rw [HE.out];rfl,Below.refl _ _,fun h1=>by rw [HE.out] at h1;simp at h1⟩
end Go.Proofs.YtdegffffcbhjbaaGreatDoor.Un
end
section
namespace Go.Proofs.YtdegffffcbhjbaaGreatDoor.Un
open Go.RowKit Go.Maps
set_option maxRecDepth 100000 in
theorem stood_entry {W:World} {m n:Nat} {D:DataW Unit} {M:Mast} {ws:List ByteArray} (hm:MapRd W m n D) (hst:StoodOk D M) (hf:formedW ws=true) (hn:n < maxLen) :
 (∃ c:Int,c=hadI M ws∧(Instr.lookup 114 (.map (some m)) (aggK (wd ws 0) (keyB ws) (keyC ws)) false).run Tryz.prog W=.ok (.int .i64 c) W) ∧
 (hadW M ws=false→∃ (v0:Value) (st:Nat) (W3 W4:World),(Instr.mapEntry 114 (.map (some m)) (aggK (wd ws 0) (keyB ws) (keyC ws))).run Tryz.prog W=.ok (.tuple #[v0,.int .i64 (st:Int)]) W3 ∧
  (Instr.lookup 114 (.map (some m)) (aggK (wd ws 0) (keyB ws) (keyC ws)) false).run Tryz.prog W3=.ok (.int .i64 0) W3 ∧
  (Instr.entryStore 114 (.map (some m)) (.int .i64 (st:Int)) (.int .i64 1)).run Tryz.prog W3=.ok () W4 ∧
  MapRd W4 m (n+1) (D.put (klW ws) (.lit (.int .i64 1)))∧W.grownBy W4 (some m)):=by
 obtain ⟨s1,s2,s3⟩:=formed_sizes hf
 have hkey:=keyOf_mk (wd ws 0) (keyB ws) (keyC ws) (small_len s1) (small_len s2) (small_len s3)
 have hT:=Tryz.underlying114
 have hI:=Tryz.underlying3
 refine ⟨?_,fun hno=>?_⟩
 ·obtain ⟨c,hrun,hat,_⟩:=hm.lookup_int keyLaw hT hI (zeroInt _) hkey
  have:=hst ws hf
  rw [hat] at this
  injection this with this
  injection this with _ this
  exact ⟨c,this,hrun⟩
 ·have hz0:plainElem (H:=Unit) Tryz.prog 3 (.int .i64 0)=some (.lit (.int .i64 0),[]):=plainElem_int hI (by decide)
  have h1:plainElem (H:=Unit) Tryz.prog 3 (.int .i64 1)=some (.lit (.int .i64 1),[]):=plainElem_int hI (by decide)
  obtain ⟨v0,st,W3,dv,he,hg3,ho3,hdv,hs⟩:=own_entry hm keyLaw hT (z:=.int .i64 0) (fun u=>zeroInt u) hz0 hn hkey
  obtain ⟨W4,hs4,ho4,hg4⟩:=hs (.int .i64 1) _ _ h1
  obtain ⟨c,hrun,hat,_⟩:=ho3.lookup_int keyLaw hT hI (zeroInt _) hkey
  have hc:c=0:=by
   rw [atKey_put_same (hm.tidy keyLaw).isMap (klit_key _ _ _),hdv,hst ws hf] at hat
   injection hat with hat
   injection hat with _ hat
   rw [←hat];unfold hadI;rw [hno];rfl
  subst hc
  exact ⟨v0,st,W3,W4,he,hrun,hs4,ho4,hg3.trans hg4⟩
set_option maxRecDepth 100000 in
set_option maxHeartbeats 8000000 in
theorem read_formed (v:Value) (ws:List ByteArray) (W0 W:World) (R m n:Nat) (c f e l:Value) (D:DataW Unit) (M:Mast) (hv0:StrsV W0 v ws) (hb:Below W0.heap.size W0 W) (h:RdAt W W0.heap.size R m c f e l n D M) (hst:StoodOk D M)
 (hw1:wd ws 0≠tAccount) (hw2:wd ws 0≠Fl.tFlow) (hf:formedW ws=true) (hn:n < maxLen)
 (HKP:∀ (X:World) (k:Nat) (D':DataW Unit),StrsV X v ws→RdAt X W0.heap.size R m c f e l k D' M→W0.heap.size≤X.heap.size→Calls Tryz.prog 68 #[.pointer (some ⟨R,0,none⟩),v] X (ReadTold X W0.heap.size R m k D' (stepV M ws) (keepE M ws))) :
 Calls Tryz.prog 44 #[.pointer (some ⟨R,0,none⟩),v] W (LineTold W W0.heap.size R m (n+1) (stepV M ws) (stepE M ws)):=by
 have hv:=hv0.keep hb
 have h0:0 < ws.length:=by
  unfold formedW at hf
  rw [Bool.and_eq_true,decide_eq_true_eq] at hf
  exact hf.1
 obtain ⟨x0,hx0⟩:∃ x,ws[0]?=some x:=⟨_,List.getElem?_eq_getElem h0⟩
 have hwd:wd ws 0=x0:=wd_of hx0
 have q1:=qAccount x0
 have q2:=qFlow x0
 rw [decide_eq_false (by rw [←hwd];exact hw1)] at q1
 rw [decide_eq_false (by rw [←hwd];exact hw2)] at q2
 have HSF:Hid (stepE M ws=if hadW M ws=true then 7 else keepE M ws):=Lib.hid (step_formed hw1 hw2 hf)
 have HFO:=Lib.hid (formed_any v ws W hv h0)
 rw [hf] at HFO
 have HKO:=Lib.hid (keyOf_any v ws W hv hf)
 have HSE:=Lib.hid (fun (X:World) (hX:MapRd X m n D)=>stood_entry hX hst hf hn)
 have HSP:Hid (stepE M ws=0→StoodOk (D.put (klW ws) (.lit (.int .i64 1))) (stepV M ws)):=Lib.hid (fun h0=>hst.step (h.map.tidy keyLaw) hf h0)
 obtain ⟨kA,hkA⟩:∃ kA,wd ws 0=kA:=⟨_,rfl⟩
 obtain ⟨kB,hkB⟩:∃ kB,keyB ws=kB:=⟨_,rfl⟩
 obtain ⟨kC,hkC⟩:∃ kC,keyC ws=kC:=⟨_,rfl⟩
 rw [hkA,hkB,hkC] at HKO
 simp only [hkA,hkB,hkC] at HSE
 obtain ⟨E,hE⟩:∃ E,stepE M ws=E:=⟨_,rfl⟩
 obtain ⟨N,hN⟩:∃ N,stepV M ws=N:=⟨_,rfl⟩
 obtain ⟨K,hK⟩:∃ K,keepE M ws=K:=⟨_,rfl⟩
 rw [hE,hK] at HSF
 rw [hE,hN] at HSP ⊢
 simp only [hN,hK] at HKP
 have HKE:=Lib.hid HKP
 have HV0:=Lib.hid hv0
 have HRD:=Lib.hid h
 have HB:=Lib.hid hb
 obtain ⟨p,cp,rfl,_,_,hc⟩:=hv
 obtain ⟨g,o,rfl,k0⟩:=hc 0 x0 hx0
 rw [Nat.add_zero] at k0
 obtain ⟨nw,hnw⟩:∃ nw,ws.length=nw:=⟨_,rfl⟩
 rw [hnw] at HFO HKO HV0 h0 ⊢
 simp only [hnw] at HKE
 clear HKP hE hN hK hkA hkB hkC hc hx0 hwd hw1 hw2 hv0 hst h hf hnw hb hn
 go_enter Tryz.func44,Tryz.ntmps44
 go_wp2_with fail
 refine HFO.out.mono ?_
 rintro en w1 ⟨rfl,rfl⟩
 go_wp2_with fail
 refine HKO.out.mono ?_
 rintro en w2 ⟨rfl,hb2⟩
 have hb3:=hb2.alloc hb2.size (.cells #[.string kA,.string kB,.string kC] 154)
 have HR3:=Lib.hid (HRD.out.below hb3)
 have HX3:=Lib.hid (BoxE.new encK w2 (kA,kB,kC) 154)
 have HB3:=Lib.hid (HB.out.trans (hb3.mono HB.out.size))
 have HBW:=Lib.hid (hb3.mono HB.out.size)
 obtain ⟨W3,hW3⟩:∃ W3,w2.alloc (.cells #[.string kA,.string kB,.string kC] 154)=W3:=⟨_,rfl⟩
 have hW3':w2.alloc (.cells (encK.cs (kA,kB,kC)).toArray 154)=W3:=hW3
 rw [hW3] at HR3 HB3 HBW
 rw [hW3'] at HX3
 clear hb2 hb3 hW3'
 go_wp2_with fail
 clear hW3
 obtain ⟨W4,hW4⟩:∃ W4,W3.drew=W4:=⟨_,rfl⟩
 have HR4:Hid (RdAt W4 W0.heap.size R m c f e l n D M):=Lib.hid (by rw [←hW4];exact HR3.out.below ⟨rfl,rfl,rfl,Nat.le_refl _,fun _ _=>rfl⟩)
 have HX4:Hid (BoxE encK W4 w2.heap.size 154 (kA,kB,kC)):=Lib.hid (by rw [←hW4];exact HX3.out)
 have HB4:Hid (Below W0.heap.size W0 W4):=Lib.hid (by rw [←hW4];exact ⟨HB3.out.os,HB3.out.tape,HB3.out.output,HB3.out.size,HB3.out.block⟩)
 have HW4:Hid (Below W0.heap.size w1 W4):=Lib.hid (by rw [←hW4];exact ⟨HBW.out.os,HBW.out.tape,HBW.out.output,HBW.out.size,HBW.out.block⟩)
 obtain ⟨⟨cc,hcc,hlk⟩,hen⟩:=HSE.out W4 HR4.out.map
 have hten:=HR4.out.ten
 obtain ⟨y0,y1,y2⟩:=key3 HX4.out
 obtain ⟨hd,hhd⟩:∃ hd,hadW M ws=hd:=⟨_,rfl⟩
 unfold hadI at hcc
 rw [hhd] at hcc hen HSF
 have HHD:=Lib.hid hhd
 refine wp_region_still_lit (by kernel_rfl) (by kernel_rfl) ?_
 rw [show ({ heap:=W3.heap,tape:=W3.tape,drawn:=W3.drawn+1,os:=W3.os,output:=W3.output }:World)=W4 from hW4]
 clear hW4 hhd HR3 HX3 HB3 HBW
 cases hd with
 | true =>
   have HE7:Hid (E=7):=Lib.hid (by rw [HSF.out];rfl)
   rw [if_pos rfl] at hcc
   subst hcc
   clear hen
   repeat still_step
   refine wpStill_nil ?_
   go_wp2
   go_ret
   exact ⟨by rw [HE7.out];rfl,HW4.out,fun h1=>by rw [HE7.out] at h1;simp at h1⟩
 | false =>
   have HEK:Hid (E=K):=Lib.hid (by rw [HSF.out];rfl)
   rw [if_neg (by simp)] at hcc
   subst hcc
   clear hen
   repeat still_step
   refine wpStill_nil ?_
   clear hlk hten y0 y1 y2
   go_wp2_with fail
   have HR5:Hid (RdAt W4.drew W0.heap.size R m c f e l n D M):=Lib.hid (HR4.out.below ⟨rfl,rfl,rfl,Nat.le_refl _,fun _ _=>rfl⟩)
   have HX5:Hid (BoxE encK W4.drew w2.heap.size 154 (kA,kB,kC)):=Lib.hid HX4.out
   obtain ⟨⟨cc,hcc,hlk⟩,hen⟩:=HSE.out W4.drew HR5.out.map
   unfold hadI at hcc
   rw [HHD.out] at hcc hen
   rw [if_neg (by simp)] at hcc
   subst hcc
   obtain ⟨v0,st,W6,W7,he,hl6,hs7,ho7,hg7⟩:=hen rfl
   have hten:=HR5.out.ten
   obtain ⟨y0,y1,y2⟩:=key3 HX5.out
   have HR7:=Lib.hid (HR5.out.mapTurned hg7 ho7)
   have HB7:Hid (Below W0.heap.size W0 W7):=Lib.hid (by
    have hb5:Below W0.heap.size W0 W4.drew:=⟨HB4.out.os,HB4.out.tape,HB4.out.output,HB4.out.size,HB4.out.block⟩
    exact hb5.grown hg7 hb5.size (fun j hj=>by cases hj;exact HR4.out.geM))
   have HW7:Hid (Below W0.heap.size w1 W7):=Lib.hid (by
    have hb5:Below W0.heap.size w1 W4.drew:=⟨HW4.out.os,HW4.out.tape,HW4.out.output,HW4.out.size,HW4.out.block⟩
    exact hb5.grown hg7 HB4.out.size (fun j hj=>by cases hj;exact HR4.out.geM))
   clear ho7 hg7
   go_region
   clear he hl6 hs7 hlk hten y0 y1 y2
   go_wp2_with fail
   refine (HKE.out W7 _ _ (HV0.out.keep HB7.out) HR7.out HB7.out.size).mono ?_
   rintro en w9 ⟨rfl,hb9,hrd9⟩
   have HB9:=Lib.hid (HW7.out.trans hb9)
   have HR9:=Lib.hid hrd9
   clear hb9 hrd9
   go_wp2
   go_ret
   exact ⟨by rw [HEK.out];rfl,HB9.out,fun h1=>by
    obtain ⟨c9,f9,e9,l9,hr9⟩:=HR9.out (by rw [←HEK.out];exact h1)
    exact ⟨c9,f9,e9,l9,_,hr9,HSP.out h1⟩⟩
end Go.Proofs.YtdegffffcbhjbaaGreatDoor.Un
end
