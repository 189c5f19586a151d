/- CourseMore -/
import Derived.Test.YthcpglnmhimepaaGreatDoorS47
import Derived.Test.YthcpglnmhimepaaGreatDoorS53
namespace Go.Proofs.YthcpglnmhimepaaGreatDoor.Cs
open Go.RowKit Go.Maps Go.Proofs.YthcpglnmhimepaaGreatDoor.Un Go.Proofs.YthcpglnmhimepaaGreatDoor.Pk
theorem idx4 (a b c4 d4:ByteArray) (w:World):(Instr.index 65 (.agg #[.string a,.string b,.string c4,.string d4]) (.int .i64 0)).run Tryz.prog w=.ok (.string a) w∧(Instr.index 65 (.agg #[.string a,.string b,.string c4,.string d4]) (.int .i64 1)).run Tryz.prog w=.ok (.string b) w∧(Instr.index 65 (.agg #[.string a,.string b,.string c4,.string d4]) (.int .i64 2)).run Tryz.prog w=.ok (.string c4) w∧(Instr.index 65 (.agg #[.string a,.string b,.string c4,.string d4]) (.int .i64 3)).run Tryz.prog w=.ok (.string d4) w:=⟨by kernel_rfl,by kernel_rfl,by kernel_rfl,by kernel_rfl⟩
theorem fl_new' (w:World) (x:Fl.Flow):(w.alloc (.cells #[.string x.code,.int .i64 x.kind] 70)).cell? ⟨w.heap.size,0,none⟩=some (.string x.code)∧(w.alloc (.cells #[.string x.code,.int .i64 x.kind] 70)).cell? ⟨w.heap.size,1,none⟩=some (.int .i64 x.kind) :=
 ⟨(cell_of_row _ w.heap.size 0 _ _ (0,0) (heap_alloc_new w _)).trans rfl,(cell_of_row _ w.heap.size 1 _ _ (0,0) (heap_alloc_new w _)).trans rfl⟩
theorem texts_new (w:World) (ws:List ByteArray) (t:TypeId) {j:Nat} {s:ByteArray} (h:ws[j]?=some s):(w.alloc (.cells (ws.map Value.string).toArray t)).cell? ⟨w.heap.size,j,none⟩=some (.string s):=by
 rw [cell_of_row _ w.heap.size j _ t (0,0) (heap_alloc_new w _)]
 simp [h]
structure MoreAt (M:Mast) (ws:List ByteArray) (x:ByteArray) (f:Fl.Flow) (O1 O2:(Int × Int) × Int):Prop where
 cur:x≠wd ws (ws.length - 2)→O2=O1
 ok:O1.2=0→O2.2=0
 flow:wd ws 0=tFlow→f.code≠wd ws 1→O2=O1
theorem more_at {M:Mast} {s more:ByteArray} {T K:List Crs} (hr:runC M [] (wordsT s)=(T,0)) (hs:s.size≤4000) (hm:more.size≤2000) (hk:parseC M (printC T++more)=(K,0)) {ws:List ByteArray} (hw:wordsT more=[ws]):LineOk M ws∧∀ (x:ByteArray) (f:Fl.Flow),MoreAt M ws x f (ofC M T x f.code) (ofC M K x f.code):=by
 obtain ⟨_,h1⟩:=text_more hr hs hm hk
 rw [hw] at h1
 obtain ⟨h2,h3,rfl⟩:=more_one h1
 refine ⟨h2,fun x f=>⟨fun hx=>more_cur h3 hx f.code,fun h0=>more_ok h3 h0,fun h0 hf=>?_⟩⟩
 refine more_flow h3 (show (readV ws).sort=tFlow from h0) ?_ x
 show f.code≠if wd ws 0=tFlow then wd ws 1 else emp
 rw [if_pos h0]
 exact hf
set_option maxRecDepth 100000 in
set_option maxHeartbeats 16000000 in
theorem courseMore_walk (s0 s1:ByteArray) (a b c4 d4:ByteArray) (w:World) (_hs0:s0.size≤maxLen) (_hs1:s1.size≤maxLen) (_ha:a.size≤maxLen) (_hb:b.size≤maxLen) (_hc:c4.size≤maxLen) (_hd:d4.size≤maxLen) (hU:LaidP w):Calls Tryz.prog 6 #[.string s0,.string s1,.agg #[.string a,.string b,.string c4,.string d4]] w fun en w'=>en=.returned (.bool true)∧Below w.heap.size w w':=by
 clear _hs0 _hs1 _ha _hb _hc _hd
 have hb0:=(Below.refl w.heap.size w).alloc (Nat.le_refl _) (.cells #[.string a,.string b,.string c4,.string d4] 65)
 have hc0:(w.alloc (.cells #[.string a,.string b,.string c4,.string d4] 65)).cell? ⟨w.heap.size,0,none⟩=_:=(cell_of_row _ w.heap.size 0 _ _ (0,0) (heap_alloc_new w _)).trans rfl
 have hc1:(w.alloc (.cells #[.string a,.string b,.string c4,.string d4] 65)).cell? ⟨w.heap.size,1,none⟩=_:=(cell_of_row _ w.heap.size 1 _ _ (0,0) (heap_alloc_new w _)).trans rfl
 have hc2:(w.alloc (.cells #[.string a,.string b,.string c4,.string d4] 65)).cell? ⟨w.heap.size,2,none⟩=_:=(cell_of_row _ w.heap.size 2 _ _ (0,0) (heap_alloc_new w _)).trans rfl
 have hc3:(w.alloc (.cells #[.string a,.string b,.string c4,.string d4] 65)).cell? ⟨w.heap.size,3,none⟩=_:=(cell_of_row _ w.heap.size 3 _ _ (0,0) (heap_alloc_new w _)).trans rfl
 obtain ⟨w0,hw0⟩:∃ w0,w.alloc (.cells #[.string a,.string b,.string c4,.string d4] 65)=w0:=⟨_,rfl⟩
 rw [hw0] at hb0 hc0 hc1 hc2 hc3
 have HB0:=Lib.hid hb0
 have HL0:=Lib.hid (hU.keep hb0)
 have HCa0:=Lib.hid hc0
 have HCb0:=Lib.hid hc1
 have HCc0:=Lib.hid hc2
 have HCd0:=Lib.hid hc3
 clear hU hb0 hc0 hc1 hc2 hc3
 go_enter Tryz.func6,Tryz.ntmps6
 go_wp2_with fail
 clear hw0
 refine (alive14_any _ HL0.out).mono ?_
 rintro en w1 ⟨rfl,hb1⟩
 have HB1:=Lib.hid (HB0.out.trans (hb1.mono HB0.out.size))
 have HL1:=Lib.hid (HL0.out.keep hb1)
 have HCa1:=Lib.hid ((hb1.cell (World.block_lt_of_cell? _ _ HCa0.out)).trans HCa0.out)
 have HCb1:=Lib.hid ((hb1.cell (World.block_lt_of_cell? _ _ HCb0.out)).trans HCb0.out)
 have HCc1:=Lib.hid ((hb1.cell (World.block_lt_of_cell? _ _ HCc0.out)).trans HCc0.out)
 have HCd1:=Lib.hid ((hb1.cell (World.block_lt_of_cell? _ _ HCd0.out)).trans HCd0.out)
 clear HB0 HL0 HCa0 HCb0 HCc0 HCd0
 clear hb1
 go_wp2_with fail
 refine (master_any s0 _ HL1.out.1 HL1.out.2.1).mono ?_
 rintro en w2 ⟨M,c,f,e,l,c',f',e',l',is,rfl,hm,hm',hb2,his⟩
 obtain ⟨pc,cc,pf,cf,pe,ce,pl,cl,rfl,rfl,rfl,rfl⟩:=shapes hm
 obtain ⟨pc',cc',pf',cf',pe',ce',pl',cl',rfl,rfl,rfl,rfl⟩:=shapes hm'
 have HM2:=Lib.hid hm
 have HM2':=Lib.hid hm'
 have HB2:=Lib.hid (HB1.out.trans (hb2.mono HB1.out.size))
 have HL2:=Lib.hid (HL1.out.keep hb2)
 have HCa2:=Lib.hid ((hb2.cell (World.block_lt_of_cell? _ _ HCa1.out)).trans HCa1.out)
 have HCb2:=Lib.hid ((hb2.cell (World.block_lt_of_cell? _ _ HCb1.out)).trans HCb1.out)
 have HCc2:=Lib.hid ((hb2.cell (World.block_lt_of_cell? _ _ HCc1.out)).trans HCc1.out)
 have HCd2:=Lib.hid ((hb2.cell (World.block_lt_of_cell? _ _ HCd1.out)).trans HCd1.out)
 clear HB1 HL1 HCa1 HCb1 HCc1 HCd1
 have HIS:=Lib.hid his
 clear hm hm' hb2 his
 by_cases hbig:3000 < s1.size
 ·cases is
  all_goals
   go_wp2_with (first
    | (refine wpList_store_mast rfl 30 (.tmp 7) (.tmp 34) rfl w2.heap.size nil4 nil4 nil4 nil4 (.slice pc M.chart.length cc) (.slice pf M.flows.length cf) (.slice pe M.ents.length ce) (.slice pl M.lines.length cl) zeroM M 30 rfl rfl (start1 w2) ⟨rfl,rfl,rfl,rfl⟩ (by kernel_rfl) ?_;intro w3 hb3 hg3;have HX3:=Lib.hid hb3;have HG3:=Lib.hid hg3;clear hb3 hg3)
    | (refine wpList_store_mast rfl 36 (.tmp 8) (.tmp 35) rfl (w2.heap.size+1) nil4 nil4 nil4 nil4 (.slice pc' M.chart.length cc') (.slice pf' M.flows.length cf') (.slice pe' M.ents.length ce') (.slice pl' M.lines.length cl') zeroM M 36 rfl rfl (start_keep HG3.out) ⟨rfl,rfl,rfl,rfl⟩ (by kernel_rfl) ?_;intro w4 hb4 hg4;have HT4:=Lib.hid (two_of HM2.out HM2'.out HX3.out HG3.out hb4 hg4);clear hb4 hg4;have HB4:=Lib.hid (HB2.out.trans (HT4.out.bel.mono HB2.out.size));have HL4:=Lib.hid (HL2.out.keep HT4.out.bel);have HCa4:=Lib.hid ((HT4.out.bel.cell (World.block_lt_of_cell? _ _ HCa2.out)).trans HCa2.out);have HCb4:=Lib.hid ((HT4.out.bel.cell (World.block_lt_of_cell? _ _ HCb2.out)).trans HCb2.out);have HCc4:=Lib.hid ((HT4.out.bel.cell (World.block_lt_of_cell? _ _ HCc2.out)).trans HCc2.out);have HCd4:=Lib.hid ((HT4.out.bel.cell (World.block_lt_of_cell? _ _ HCd2.out)).trans HCd2.out);have qa:=HCa4.out;have qb:=HCb4.out;have qc:=HCc4.out;have qd:=HCd4.out)
    | fail)
   go_ret
   exact ⟨rfl,HB4.out⟩
 cases is with
 | false =>
   go_wp2_with (first
    | (refine wpList_store_mast rfl 30 (.tmp 7) (.tmp 34) rfl w2.heap.size nil4 nil4 nil4 nil4 (.slice pc M.chart.length cc) (.slice pf M.flows.length cf) (.slice pe M.ents.length ce) (.slice pl M.lines.length cl) zeroM M 30 rfl rfl (start1 w2) ⟨rfl,rfl,rfl,rfl⟩ (by kernel_rfl) ?_;intro w3 hb3 hg3;have HX3:=Lib.hid hb3;have HG3:=Lib.hid hg3;clear hb3 hg3)
    | (refine wpList_store_mast rfl 36 (.tmp 8) (.tmp 35) rfl (w2.heap.size+1) nil4 nil4 nil4 nil4 (.slice pc' M.chart.length cc') (.slice pf' M.flows.length cf') (.slice pe' M.ents.length ce') (.slice pl' M.lines.length cl') zeroM M 36 rfl rfl (start_keep HG3.out) ⟨rfl,rfl,rfl,rfl⟩ (by kernel_rfl) ?_;intro w4 hb4 hg4;have HT4:=Lib.hid (two_of HM2.out HM2'.out HX3.out HG3.out hb4 hg4);clear hb4 hg4;have HB4:=Lib.hid (HB2.out.trans (HT4.out.bel.mono HB2.out.size));have HL4:=Lib.hid (HL2.out.keep HT4.out.bel);have HCa4:=Lib.hid ((HT4.out.bel.cell (World.block_lt_of_cell? _ _ HCa2.out)).trans HCa2.out);have HCb4:=Lib.hid ((HT4.out.bel.cell (World.block_lt_of_cell? _ _ HCb2.out)).trans HCb2.out);have HCc4:=Lib.hid ((HT4.out.bel.cell (World.block_lt_of_cell? _ _ HCc2.out)).trans HCc2.out);have HCd4:=Lib.hid ((HT4.out.bel.cell (World.block_lt_of_cell? _ _ HCd2.out)).trans HCd2.out);have qa:=HCa4.out;have qb:=HCb4.out;have qc:=HCc4.out;have qd:=HCd4.out)
    | fail)
   go_ret
   exact ⟨rfl,HB4.out⟩
 | true =>
 go_wp2_with (first
  | (refine wpList_store_mast rfl 30 (.tmp 7) (.tmp 34) rfl w2.heap.size nil4 nil4 nil4 nil4 (.slice pc M.chart.length cc) (.slice pf M.flows.length cf) (.slice pe M.ents.length ce) (.slice pl M.lines.length cl) zeroM M 30 rfl rfl (start1 w2) ⟨rfl,rfl,rfl,rfl⟩ (by kernel_rfl) ?_;intro w3 hb3 hg3;have HX3:=Lib.hid hb3;have HG3:=Lib.hid hg3;clear hb3 hg3)
  | (refine wpList_store_mast rfl 36 (.tmp 8) (.tmp 35) rfl (w2.heap.size+1) nil4 nil4 nil4 nil4 (.slice pc' M.chart.length cc') (.slice pf' M.flows.length cf') (.slice pe' M.ents.length ce') (.slice pl' M.lines.length cl') zeroM M 36 rfl rfl (start_keep HG3.out) ⟨rfl,rfl,rfl,rfl⟩ (by kernel_rfl) ?_;intro w4 hb4 hg4;have HT4:=Lib.hid (two_of HM2.out HM2'.out HX3.out HG3.out hb4 hg4);clear hb4 hg4;have HB4:=Lib.hid (HB2.out.trans (HT4.out.bel.mono HB2.out.size));have HL4:=Lib.hid (HL2.out.keep HT4.out.bel);have HCa4:=Lib.hid ((HT4.out.bel.cell (World.block_lt_of_cell? _ _ HCa2.out)).trans HCa2.out);have HCb4:=Lib.hid ((HT4.out.bel.cell (World.block_lt_of_cell? _ _ HCb2.out)).trans HCb2.out);have HCc4:=Lib.hid ((HT4.out.bel.cell (World.block_lt_of_cell? _ _ HCc2.out)).trans HCc2.out);have HCd4:=Lib.hid ((HT4.out.bel.cell (World.block_lt_of_cell? _ _ HCd2.out)).trans HCd2.out);have qa:=HCa4.out;have qb:=HCb4.out;have qc:=HCc4.out;have qd:=HCd4.out)
  | fail)
 clear HM2 HM2' HB2 HL2 HCa2 HCb2 HCc2 HCd2 HX3 HG3
 obtain ⟨x0,x1,x2,x3⟩:(∀ w,_)∧(∀ w,_)∧(∀ w,_)∧(∀ w,_):=⟨fun w=>(idx4 a b c4 d4 w).1,fun w=>(idx4 a b c4 d4 w).2.1,fun w=>(idx4 a b c4 d4 w).2.2.1,fun w=>(idx4 a b c4 d4 w).2.2.2⟩
 by_cases hz0:30 < a.size
 ·refine wp_loop_rounds 1 ?_
  rw [rounds_succ]
  go_wp2
  go_ret
  exact ⟨rfl,HB4.out⟩
 by_cases hz1:30 < b.size
 ·refine wp_loop_rounds 2 ?_
  rw [rounds_succ]
  go_wp2
  rw [rounds_succ]
  go_wp2
  go_ret
  exact ⟨rfl,HB4.out⟩
 by_cases hz2:30 < c4.size
 ·refine wp_loop_rounds 3 ?_
  rw [rounds_succ]
  go_wp2
  rw [rounds_succ]
  go_wp2
  rw [rounds_succ]
  go_wp2
  go_ret
  exact ⟨rfl,HB4.out⟩
 by_cases hz3:30 < d4.size
 ·refine wp_loop_rounds 4 ?_
  rw [rounds_succ]
  go_wp2
  rw [rounds_succ]
  go_wp2
  rw [rounds_succ]
  go_wp2
  rw [rounds_succ]
  go_wp2
  go_ret
  exact ⟨rfl,HB4.out⟩
 have HZA:Hid (a.size≤30∧b.size≤30∧c4.size≤30∧d4.size≤30):=Lib.hid (by omega)
 have ho:=mast_ok (HIS.out (by first | trivial | rfl)).1
 have HO:=Lib.hid ho
 clear ho
 have hs1:s1.size≤3000:=by omega
 have HTO:=Lib.hid (tab_ok M s1 (by omega))
 have HPG:=Lib.hid (fun (X:ByteArray) (hX:X.size≤29000) W h hL=>pparse_ok (c:=(.slice pc M.chart.length cc)) (f:=(.slice pf M.flows.length cf)) (e:=(.slice pe M.ents.length ce)) (l:=(.slice pl M.lines.length cl)) X W h HO.out hX hL)
 have HPP:=Lib.hid (fun W h hL=>pparse_ok (c:=(.slice pc M.chart.length cc)) (f:=(.slice pf M.flows.length cf)) (e:=(.slice pe M.ents.length ce)) (l:=(.slice pl M.lines.length cl)) s1 W h HO.out (by omega) hL)
 have hpw:=parse_ways M s1
 obtain ⟨P,hP⟩:∃ P,parseC M s1=P:=⟨_,rfl⟩
 simp only [hP] at HPP HTO hpw
 obtain ⟨T,E⟩:=P
 dsimp only at HTO hpw
 have HPW:=Lib.hid hpw
 have HPR:=Lib.hid (fun W (v:Value) hV hL=>pprint_ok (v:=v) (M:=M) (L:=T) W hV HTO.out hL)
 have HPZ:=Lib.hid (show (printC T).size≤20000 by have:=HTO.out.szl;unfold printC;rw [mkB_size,textW_length];exact this)
 obtain ⟨S,hS⟩:∃ S,printC T=S:=⟨_,rfl⟩
 simp only [hS] at HPR HPZ
 have HSS:=Lib.hid hS
 obtain ⟨X,hX⟩:∃ X:ByteArray,((((((a++⟨#[32]⟩)++b)++⟨#[32]⟩)++c4)++⟨#[32]⟩)++d4)++⟨#[10]⟩=X:=⟨_,rfl⟩
 have HXZ:Hid (X.size≤130):=Lib.hid (by
  have:=HZA.out
  rw [←hX]
  simp only [ByteArray.size_append]
  have e1:(⟨#[32]⟩:ByteArray).size=1:=rfl
  have e2:(⟨#[10]⟩:ByteArray).size=1:=rfl
  omega)
 obtain ⟨U,hU⟩:∃ U,parseC M (S++X)=U:=⟨_,rfl⟩
 have HPX:=Lib.hid (HPG.out (S++X) (by rw [ByteArray.size_append];have:=HXZ.out;have:=HPZ.out;omega))
 have HUO:=Lib.hid (tab_rd M (S++X))
 simp only [hU] at HPX HUO
 have HUU:=Lib.hid hU
 obtain ⟨K,F⟩:=U
 dsimp only at HUO
 have hs1:¬ 9223372036854775807 < a.size+1:=by omega
 have hs2:¬ 9223372036854775807 < a.size+1+b.size:=by omega
 have hs3:¬ 9223372036854775807 < a.size+1+b.size+1:=by omega
 have hs4:¬ 9223372036854775807 < a.size+1+b.size+1+c4.size:=by omega
 have hs5:¬ 9223372036854775807 < a.size+1+b.size+1+c4.size+1:=by omega
 have hs6:¬ 9223372036854775807 < a.size+1+b.size+1+c4.size+1+d4.size:=by omega
 have hs7:¬ 9223372036854775807 < a.size+1+b.size+1+c4.size+1+d4.size+1:=by omega
 have hsx:=Lib.hid (show ¬ 9223372036854775807 < S.size+X.size by have:=HXZ.out;have:=HPZ.out;omega)
 clear hP hS hU HIS hpw HPG
 refine wp_loop_rounds 5 ?_
 rw [rounds_succ]
 go_wp2
 rw [rounds_succ]
 go_wp2
 rw [rounds_succ]
 go_wp2
 rw [rounds_succ]
 go_wp2
 rw [rounds_succ]
 obtain ⟨n0,n1,n2,n3,n4,n5,n6,n7,n8⟩:=HT4.out.nine
 have ca:=HCa4.out
 have cb:=HCb4.out
 have cc':=HCc4.out
 have cd:=HCd4.out
 go_wp2_with fail
 clear x0 x1 x2 x3 hs1 hs2 hs3 hs4 hs5 hs6 hs7 ca cb cc' cd hz0 hz1 hz2 hz3 n0 n1 n2 n3 n4 n5 n6 n7 n8
 clear hX
 refine (HPP.out _ HT4.out.mast HL4.out).mono ?_
 rintro en w5 ⟨v5,rfl,hv5,hb5⟩
 dsimp only at hv5 ⊢
 obtain ⟨p5,c5,rfl⟩:=tab_slice hv5
 obtain ⟨l5,hl5⟩:∃ l,T.length=l:=⟨_,rfl⟩
 rw [hl5] at hv5 ⊢
 have hc5:=hb5.alloc hb5.size (.cells #[.slice p5 l5 c5] 41)
 have hx5:=(Below.refl w5.heap.size w5).alloc (Nat.le_refl _) (.cells #[.slice p5 l5 c5] 41)
 have hk5:=tab_box w5 (.slice p5 l5 c5)
 have hv5':=tab_keep hv5 hx5
 obtain ⟨W5,hW5⟩:∃ W5,w5.alloc (.cells #[.slice p5 l5 c5] 41)=W5:=⟨_,rfl⟩
 rw [hW5] at hc5 hk5 hv5'
 have HV5:=Lib.hid hv5'
 have HK5:=Lib.hid hk5
 have HB5:=Lib.hid (HB4.out.trans (hc5.mono HB4.out.size))
 have HL5:=Lib.hid (HL4.out.keep hc5)
 have HCa5:=Lib.hid ((hc5.cell (World.block_lt_of_cell? _ _ HCa4.out)).trans HCa4.out)
 have HCb5:=Lib.hid ((hc5.cell (World.block_lt_of_cell? _ _ HCb4.out)).trans HCb4.out)
 have HCc5:=Lib.hid ((hc5.cell (World.block_lt_of_cell? _ _ HCc4.out)).trans HCc4.out)
 have HCd5:=Lib.hid ((hc5.cell (World.block_lt_of_cell? _ _ HCd4.out)).trans HCd4.out)
 have HT5:=Lib.hid (HT4.out.keep hc5)
 clear HB4 HL4 HCa4 HCb4 HCc4 HCd4 HT4
 clear hl5 hv5 hv5' hb5 hc5 hx5 hk5 HPP
 go_upto_region 14 with (fail)
 clear hW5
 go_cut [15,16] (fun s15 s16 wx=>∃ (gt:Nat) (vt:Value),s15=.pointer (some ⟨gt,0,none⟩)∧s16=.int .i64 F∧TurnAt W5 wx gt vt K)
 case first =>
  obtain ⟨n0,n1,n2,n3,n4,n5,n6,n7,n8⟩:=HT5.out.nine
  have k0:=HK5.out
  have r0:=fun p:Past W5=>cell_past n0 p
  have r1:=fun p:Past W5=>cell_past n1 p
  have r2:=fun p:Past W5=>cell_past n2 p
  have r3:=fun p:Past W5=>cell_past n3 p
  have r4:=fun p:Past W5=>cell_past n4 p
  have r5:=fun p:Past W5=>cell_past n5 p
  have r6:=fun p:Past W5=>cell_past n6 p
  have r7:=fun p:Past W5=>cell_past n7 p
  have r8:=fun p:Past W5=>cell_past n8 p
  have u0:=fun p:Past W5=>cell_past k0 p
  have hsy:=hsx.out
  clear k0 n0 n1 n2 n3 n4 n5 n6 n7 n8
  refine wp_region_plan (.two [0,1,3] 2 (.two [4] 5 (.one [6,7,8] 9 (.one [] 10 (.last [11]))) 9 (.one [] 5 (.one [6,7,8] 10 (.last [11])))) 9 (.one [] 2 (.one [4] 5 (.one [6,7,8] 10 (.last [11]))))) (by kernel_rfl) (by kernel_rfl) (fun d _ _ _ _ h=>by cases d <;> exact h) ?_
  obtain ⟨wz,hwz⟩:∃ wz,W5.drew=wz:=⟨_,rfl⟩
  rw [hwz]
  have HD0:=Lib.hid (show Below W5.heap.size W5 wz by rw [←hwz];exact ⟨rfl,rfl,rfl,Nat.le_refl _,fun _ _=>rfl⟩)
  clear hwz
  simp only [wpPlan,pick,nth]
  repeat (go_big_quiet_step (fail))
  refine wpQuiet_nil ?_
  refine ⟨?_,?_⟩
  ·intro K2 hK
   refine alone_want (by kernel_rfl) ?_
   go_big_op
   refine (HPR.out wz (.slice p5 l5 c5) (tab_keep HV5.out HD0.out) (HL5.out.keep HD0.out)).mono ?_
   rintro en x1 ⟨rfl,hb1⟩
   have HD1:=Lib.hid (HD0.out.trans (hb1.mono HD0.out.size))
   refine hK _ _ (past_in HD1.out) ?_
   clear hK K2 hb1
   repeat (go_big_quiet_step (fail))
   refine wpQuiet_nil ?_
   refine ⟨?_,?_⟩
   ·intro K2 hK
    refine alone_want (by kernel_rfl) ?_
    go_big_op
    refine (HPX.out x1 (HT5.out.mast.keep HD1.out) (HL5.out.keep HD1.out)).mono ?_
    rintro en x2 ⟨z2,rfl,hz2,hb2⟩
    dsimp only at hz2 ⊢
    have HZ2:=Lib.hid hz2
    have HD2:=Lib.hid (HD1.out.trans (hb2.mono HD1.out.size))
    obtain ⟨zp2,zc2,rfl⟩:=tab_slice hz2
    obtain ⟨zl2,hzl2⟩:∃ l,K.length=l:=⟨_,rfl⟩
    rw [hzl2] at hz2 HZ2 ⊢
    refine hK _ _ (past_in HD2.out) ?_
    clear hK K2 hz2 hb2 hzl2
    repeat (go_big_quiet_step (fail))
    refine wpQuiet_nil ?_
    intro K2 hK
    refine alone_want (by kernel_rfl) ?_
    have hb3:=(Below.refl x2.heap.size x2).alloc (Nat.le_refl _) (.cells #[.slice none 0 0] 41)
    have hq3:=heap_alloc_new x2 (.cells #[.slice none 0 0] 41)
    obtain ⟨x3,hy3⟩:∃ y,x2.alloc (.cells #[.slice none 0 0] 41)=y:=⟨_,rfl⟩
    rw [hy3] at hb3 hq3
    go_big_op
    have HQ3:=Lib.hid hq3
    have HE3:=Lib.hid (show W5.heap.size≤x2.heap.size from HD2.out.size)
    have HD3:=Lib.hid (HD2.out.trans (hb3.mono HD2.out.size))
    have HZ3:=Lib.hid (tab_keep HZ2.out hb3)
    refine hK _ x3 (past_in HD3.out) ?_
    clear hK K2 hb3 hq3 hy3
    refine wpQuiet_nil ?_
    intro K2 hK
    refine alone_want (by kernel_rfl) ?_
    obtain ⟨fz4,fc4⟩:=one_free HQ3.out
    go_big_op
    have HF4:Hid (TurnAt W5 (x3.setCell ⟨x2.heap.size,0,none⟩ (.slice zp2 zl2 zc2)) x2.heap.size (.slice zp2 zl2 zc2) K):=Lib.hid ⟨one_set HQ3.out,tab_off HQ3.out HZ3.out,HD3.out.setCell (p:=⟨x2.heap.size,0,none⟩) HE3.out _⟩
    refine hK _ _ (past_in HF4.out.bel) ?_
    clear hK K2 fz4 fc4
    repeat (go_big_quiet_step (fail))
    refine wpQuiet_nil ?_
    go_wp2_with fail
    go_meet
    case rel=>exact ⟨_,_,rfl,rfl,HF4.out⟩
   ·intro K2 hK
    refine alone_want (by kernel_rfl) ?_
    have hb2:=(Below.refl x1.heap.size x1).alloc (Nat.le_refl _) (.cells #[.slice none 0 0] 41)
    have hq2:=heap_alloc_new x1 (.cells #[.slice none 0 0] 41)
    obtain ⟨x2,hy2⟩:∃ y,x1.alloc (.cells #[.slice none 0 0] 41)=y:=⟨_,rfl⟩
    rw [hy2] at hb2 hq2
    go_big_op
    have HQ2:=Lib.hid hq2
    have HE2:=Lib.hid (show W5.heap.size≤x1.heap.size from HD1.out.size)
    have HD2:=Lib.hid (HD1.out.trans (hb2.mono HD1.out.size))
    refine hK _ x2 (past_in HD2.out) ?_
    clear hK K2 hb2 hq2 hy2
    refine wpQuiet_nil ?_
    intro K2 hK
    refine alone_want (by kernel_rfl) ?_
    go_big_op
    refine (HPX.out x2 (HT5.out.mast.keep HD2.out) (HL5.out.keep HD2.out)).mono ?_
    rintro en x3 ⟨z3,rfl,hz3,hb3⟩
    dsimp only at hz3 ⊢
    have HZ3:=Lib.hid hz3
    have HD3:=Lib.hid (HD2.out.trans (hb3.mono HD2.out.size))
    have HQ3:=Lib.hid ((hb3.block _ (Array.getElem?_eq_some_iff.1 HQ2.out).1).trans HQ2.out)
    obtain ⟨zp3,zc3,rfl⟩:=tab_slice hz3
    obtain ⟨zl3,hzl3⟩:∃ l,K.length=l:=⟨_,rfl⟩
    rw [hzl3] at hz3 HZ3 ⊢
    refine hK _ _ (past_in HD3.out) ?_
    clear hK K2 hz3 hb3 hzl3
    repeat (go_big_quiet_step (fail))
    refine wpQuiet_nil ?_
    intro K2 hK
    refine alone_want (by kernel_rfl) ?_
    obtain ⟨fz4,fc4⟩:=one_free HQ3.out
    go_big_op
    have HF4:Hid (TurnAt W5 (x3.setCell ⟨x1.heap.size,0,none⟩ (.slice zp3 zl3 zc3)) x1.heap.size (.slice zp3 zl3 zc3) K):=Lib.hid ⟨one_set HQ3.out,tab_off HQ3.out HZ3.out,HD3.out.setCell (p:=⟨x1.heap.size,0,none⟩) HE2.out _⟩
    refine hK _ _ (past_in HF4.out.bel) ?_
    clear hK K2 fz4 fc4
    repeat (go_big_quiet_step (fail))
    refine wpQuiet_nil ?_
    go_wp2_with fail
    go_meet
    case rel=>exact ⟨_,_,rfl,rfl,HF4.out⟩
  ·intro K2 hK
   refine alone_want (by kernel_rfl) ?_
   have hb1:=(Below.refl wz.heap.size wz).alloc (Nat.le_refl _) (.cells #[.slice none 0 0] 41)
   have hq1:=heap_alloc_new wz (.cells #[.slice none 0 0] 41)
   obtain ⟨x1,hy1⟩:∃ y,wz.alloc (.cells #[.slice none 0 0] 41)=y:=⟨_,rfl⟩
   rw [hy1] at hb1 hq1
   go_big_op
   have HQ1:=Lib.hid hq1
   have HE1:=Lib.hid (show W5.heap.size≤wz.heap.size from HD0.out.size)
   have HD1:=Lib.hid (HD0.out.trans (hb1.mono HD0.out.size))
   refine hK _ x1 (past_in HD1.out) ?_
   clear hK K2 hb1 hq1 hy1
   refine wpQuiet_nil ?_
   intro K2 hK
   refine alone_want (by kernel_rfl) ?_
   go_big_op
   refine (HPR.out x1 (.slice p5 l5 c5) (tab_keep HV5.out HD1.out) (HL5.out.keep HD1.out)).mono ?_
   rintro en x2 ⟨rfl,hb2⟩
   have HD2:=Lib.hid (HD1.out.trans (hb2.mono HD1.out.size))
   have HQ2:=Lib.hid ((hb2.block _ (Array.getElem?_eq_some_iff.1 HQ1.out).1).trans HQ1.out)
   refine hK _ _ (past_in HD2.out) ?_
   clear hK K2 hb2
   repeat (go_big_quiet_step (fail))
   refine wpQuiet_nil ?_
   intro K2 hK
   refine alone_want (by kernel_rfl) ?_
   go_big_op
   refine (HPX.out x2 (HT5.out.mast.keep HD2.out) (HL5.out.keep HD2.out)).mono ?_
   rintro en x3 ⟨z3,rfl,hz3,hb3⟩
   dsimp only at hz3 ⊢
   have HZ3:=Lib.hid hz3
   have HD3:=Lib.hid (HD2.out.trans (hb3.mono HD2.out.size))
   have HQ3:=Lib.hid ((hb3.block _ (Array.getElem?_eq_some_iff.1 HQ2.out).1).trans HQ2.out)
   obtain ⟨zp3,zc3,rfl⟩:=tab_slice hz3
   obtain ⟨zl3,hzl3⟩:∃ l,K.length=l:=⟨_,rfl⟩
   rw [hzl3] at hz3 HZ3 ⊢
   refine hK _ _ (past_in HD3.out) ?_
   clear hK K2 hz3 hb3 hzl3
   repeat (go_big_quiet_step (fail))
   refine wpQuiet_nil ?_
   intro K2 hK
   refine alone_want (by kernel_rfl) ?_
   obtain ⟨fz4,fc4⟩:=one_free HQ3.out
   go_big_op
   have HF4:Hid (TurnAt W5 (x3.setCell ⟨wz.heap.size,0,none⟩ (.slice zp3 zl3 zc3)) wz.heap.size (.slice zp3 zl3 zc3) K):=Lib.hid ⟨one_set HQ3.out,tab_off HQ3.out HZ3.out,HD3.out.setCell (p:=⟨wz.heap.size,0,none⟩) HE1.out _⟩
   refine hK _ _ (past_in HF4.out.bel) ?_
   clear hK K2 fz4 fc4
   repeat (go_big_quiet_step (fail))
   refine wpQuiet_nil ?_
   go_wp2_with fail
   go_meet
   case rel=>exact ⟨_,_,rfl,rfl,HF4.out⟩
 case rest =>
 obtain ⟨gt,vt,rfl,rfl,hta⟩:=hcut
 rename World=>wx
 have HTA:=Lib.hid hta
 have hbx:=hta.bel
 have HJ6:=Lib.hid hta.cell
 have HU6:=Lib.hid hta.tab
 have HB6:=Lib.hid (HB5.out.trans (hbx.mono HB5.out.size))
 have HL6:=Lib.hid (HL5.out.keep hbx)
 have HCa6:=Lib.hid ((hbx.cell (World.block_lt_of_cell? _ _ HCa5.out)).trans HCa5.out)
 have HCb6:=Lib.hid ((hbx.cell (World.block_lt_of_cell? _ _ HCb5.out)).trans HCb5.out)
 have HCc6:=Lib.hid ((hbx.cell (World.block_lt_of_cell? _ _ HCc5.out)).trans HCc5.out)
 have HCd6:=Lib.hid ((hbx.cell (World.block_lt_of_cell? _ _ HCd5.out)).trans HCd5.out)
 have HT6:=Lib.hid (HT5.out.keep hbx)
 have HV6:=Lib.hid (tab_keep HV5.out hbx)
 have HK6:=Lib.hid ((hbx.cell (World.block_lt_of_cell? _ _ HK5.out)).trans HK5.out)
 clear HB5 HL5 HCa5 HCb5 HCc5 HCd5 HT5 HV5 HK5
 clear hta hbx HTA
 by_cases hE:E=0
 rotate_left
 ·have h1:(E != 0)=true:=by simpa using hE
  clear hE
  go_wp2
  go_ret
  exact ⟨rfl,HB6.out⟩
 subst hE
 by_cases hF:F=0
 rotate_left
 ·have h1:(F != 0)=true:=by simpa using hF
  clear hF
  go_wp2
  go_ret
  exact ⟨rfl,HB6.out⟩
 subst hF
 have HRUN:Hid (runC M [] (wordsT s1)=(T,0)):=Lib.hid (by
  rcases HPW.out with ⟨T',hr,_,hte⟩ | ⟨_,hn⟩
  ·have e:=congrArg Prod.fst hte
   dsimp only at e
   rw [e];exact hr
  ·exact absurd rfl hn)
 go_wp2_with fail
 refine (rlines_had X _ (by have:=HXZ.out;omega)).mono ?_
 intro en w7 hlh
 obtain ⟨v7,rfl,hh7,hb7⟩:=had_of hlh
 obtain ⟨L2,hL2⟩:∃ L2,asB (linV X.data.toList)=L2:=⟨_,rfl⟩
 have hWT:wordsT X=L2.map (·.2):=by unfold wordsT;rw [hL2]
 rw [hL2] at hh7
 obtain ⟨E3,hE3⟩:∃ E3,linE X.data.toList=E3:=⟨_,rfl⟩
 rw [hE3]
 obtain ⟨p7,cap7,rfl⟩:=hh7.len
 have HH7:=Lib.hid hh7
 have HWT:=Lib.hid hWT
 have HB7:=Lib.hid (HB6.out.trans (hb7.mono HB6.out.size))
 have HL7:=Lib.hid (HL6.out.keep hb7)
 have HCa7:=Lib.hid ((hb7.cell (World.block_lt_of_cell? _ _ HCa6.out)).trans HCa6.out)
 have HCb7:=Lib.hid ((hb7.cell (World.block_lt_of_cell? _ _ HCb6.out)).trans HCb6.out)
 have HCc7:=Lib.hid ((hb7.cell (World.block_lt_of_cell? _ _ HCc6.out)).trans HCc6.out)
 have HCd7:=Lib.hid ((hb7.cell (World.block_lt_of_cell? _ _ HCd6.out)).trans HCd6.out)
 have HT7:=Lib.hid (HT6.out.keep hb7)
 have HV7:=Lib.hid (tab_keep HV6.out hb7)
 have HK7:=Lib.hid ((hb7.cell (World.block_lt_of_cell? _ _ HK6.out)).trans HK6.out)
 have HJ7:=Lib.hid ((hb7.cell (World.block_lt_of_cell? _ _ HJ6.out)).trans HJ6.out)
 have HU7:=Lib.hid (tab_keep HU6.out hb7)
 clear HB6 HL6 HCa6 HCb6 HCc6 HCd6 HT6 HV6 HK6 HJ6 HU6
 obtain ⟨N,hN⟩:∃ N,L2.length=N:=⟨_,rfl⟩
 have HN:=Lib.hid hN
 rw [hN] at HH7 ⊢
 clear hlh hb7 hL2 hWT hh7 hE3 hN
 by_cases h1:N=1
 rotate_left
 ·have hn1:((N:Int) != 1)=true:=by simp;omega
  clear h1
  go_wp2
  go_ret
  exact ⟨rfl,HB7.out⟩
 subst h1
 obtain ⟨⟨num,ws⟩,hx⟩:∃ x,L2[0]?=some x:=⟨_,List.getElem?_eq_getElem (by rw [HN.out];exact Nat.one_pos)⟩
 obtain ⟨g,cap,u,e4,hcap,hcm,c0,c1,hu⟩:=HH7.out.at hx
 rw [HN.out] at e4 hcap
 cases e4
 dsimp only at c0 c1 hu
 simp only [Nat.zero_mul,Nat.zero_add] at c0 c1
 have hwx:wordsT X=[ws]:=by
  rw [HWT.out]
  match L2,HN.out,hx with
  | [y],_,hx=>cases hx;rfl
 obtain ⟨hok,hma⟩:=more_at HRUN.out (by omega:s1.size≤4000) (by have:=HXZ.out;omega) (by rw [HSS.out];exact HUU.out) hwx
 have HMA:=Lib.hid hma
 obtain ⟨hl3,hl4,_⟩:=line_few hok
 obtain ⟨gu,cu,rfl,hcu0,hcu⟩:∃ gu cu,u=.slice (some ⟨gu,0,none⟩) ws.length cu∧ws.length≤cu∧cu≤maxLen:=by
  rcases hu.2 with ⟨_,e0⟩ | ⟨gu,cu,cur,e,_,_,h3,h4,_⟩
  ·omega
  ·exact ⟨gu,cu,e,h3,h4⟩
 have hcell:∀ (i:Nat),i < ws.length→w7.cell? ⟨gu,i,none⟩=some (.string (wd ws i)):=fun i hi=>by
  have:=hu.cells (g:=gu) rfl i (.string (wd ws i)) (by
   rw [List.getElem?_map,List.getElem?_eq_getElem hi]
   unfold wd
   rw [List.getD_eq_getElem?_getD,List.getElem?_eq_getElem hi]
   rfl)
  rwa [add_off,Nat.zero_add] at this
 have HWa7:=Lib.hid (hcell 0 (by omega))
 have HWb7:=Lib.hid (hcell 1 (by omega))
 have HWc7:=Lib.hid (hcell (ws.length - 2) (by omega))
 have HMC:=Lib.hid (fun (x:ByteArray) (f:Fl.Flow)=>(HMA.out x f).cur)
 have HMK:=Lib.hid (fun (x:ByteArray) (f:Fl.Flow)=>(HMA.out x f).ok)
 have HMF:=Lib.hid (fun (x:ByteArray) (f:Fl.Flow)=>(HMA.out x f).flow)
 obtain ⟨wa,hwa⟩:∃ wa,wd ws 0=wa:=⟨_,rfl⟩
 obtain ⟨wb,hwb⟩:∃ wb,wd ws 1=wb:=⟨_,rfl⟩
 obtain ⟨wc,hwc⟩:∃ wc,wd ws (ws.length - 2)=wc:=⟨_,rfl⟩
 simp only [hwa] at HWa7 HMF
 simp only [hwb] at HWb7 HMF
 simp only [hwc] at HWc7 HMC
 obtain ⟨nw,hnw⟩:∃ nw,ws.length=nw:=⟨_,rfl⟩
 rw [hnw] at c1 hl3 hl4 hcu0 HWc7
 have kc:=HWc7.out
 have hwn2:IntKind.i64.wrap ((nw:Int) - 2)=((nw - 2:Nat):Int):=by rw [IntKind.wrap_i64];omega
 unfold maxLen at hcm hcu
 have HPO:=Lib.hid (fun (c f:ByteArray) W (v:Value) h hV=>pof_ok (cv:=(.slice pc M.chart.length cc)) (fv:=(.slice pf M.flows.length cf)) (e:=(.slice pe M.ents.length ce)) (l:=(.slice pl M.lines.length cl)) (v:=v) (M:=M) (L:=T) c f W h HO.out hV HTO.out.rd)
 have HPK:=Lib.hid (fun (c f:ByteArray) W (v:Value) h hV=>pof_ok (cv:=(.slice pc M.chart.length cc)) (fv:=(.slice pf M.flows.length cf)) (e:=(.slice pe M.ents.length ce)) (l:=(.slice pl M.lines.length cl)) (v:=v) (M:=M) (L:=K) c f W h HO.out hV HUO.out)
 obtain ⟨nf,hnf⟩:∃ nf,M.flows.length=nf:=⟨_,rfl⟩
 have HNF:=Lib.hid hnf
 have hnf60:nf≤60:=by rw [←hnf];exact HO.out.few
 have hb8:=(Below.refl w7.heap.size w7).alloc (Nat.le_refl _) (.cells #[.string ⟨#[85,83,68]⟩,.string ⟨#[69,85,82]⟩,.string ⟨#[71,66,80]⟩,.string wc] 9)
 have htx:∀ (j:Nat) s,[(⟨#[85,83,68]⟩:ByteArray),⟨#[69,85,82]⟩,⟨#[71,66,80]⟩,wc][j]?=some s→(w7.alloc (.cells #[.string ⟨#[85,83,68]⟩,.string ⟨#[69,85,82]⟩,.string ⟨#[71,66,80]⟩,.string wc] 9)).cell? ⟨w7.heap.size,j,none⟩=some (.string s):=fun j s h=>texts_new w7 _ 9 h
 obtain ⟨W8,hW8⟩:∃ W8,w7.alloc (.cells #[.string ⟨#[85,83,68]⟩,.string ⟨#[69,85,82]⟩,.string ⟨#[71,66,80]⟩,.string wc] 9)=W8:=⟨_,rfl⟩
 rw [hW8] at hb8
 simp only [hW8] at htx
 obtain ⟨TX,hTX⟩:∃ TX,[(⟨#[85,83,68]⟩:ByteArray),⟨#[69,85,82]⟩,⟨#[71,66,80]⟩,wc]=TX:=⟨_,rfl⟩
 have hTXL:TX.length=4:=by rw [←hTX];rfl
 rw [hTX] at htx
 have HTL:=Lib.hid hTXL
 have HTC:=Lib.hid htx
 have HB8:=Lib.hid (HB7.out.trans (hb8.mono HB7.out.size))
 have HL8:=Lib.hid (HL7.out.keep hb8)
 have HCa8:=Lib.hid ((hb8.cell (World.block_lt_of_cell? _ _ HCa7.out)).trans HCa7.out)
 have HCb8:=Lib.hid ((hb8.cell (World.block_lt_of_cell? _ _ HCb7.out)).trans HCb7.out)
 have HCc8:=Lib.hid ((hb8.cell (World.block_lt_of_cell? _ _ HCc7.out)).trans HCc7.out)
 have HCd8:=Lib.hid ((hb8.cell (World.block_lt_of_cell? _ _ HCd7.out)).trans HCd7.out)
 have HT8:=Lib.hid (HT7.out.keep hb8)
 have HV8:=Lib.hid (tab_keep HV7.out hb8)
 have HK8:=Lib.hid ((hb8.cell (World.block_lt_of_cell? _ _ HK7.out)).trans HK7.out)
 have HJ8:=Lib.hid ((hb8.cell (World.block_lt_of_cell? _ _ HJ7.out)).trans HJ7.out)
 have HU8:=Lib.hid (tab_keep HU7.out hb8)
 have HWa8:=Lib.hid ((hb8.cell (World.block_lt_of_cell? _ _ HWa7.out)).trans HWa7.out)
 have HWb8:=Lib.hid ((hb8.cell (World.block_lt_of_cell? _ _ HWb7.out)).trans HWb7.out)
 clear hx hu hok hma hcell hwa hwb hwc hnw hnf hb8 htx hTX hTXL hwx
 go_wp2
 clear c0 c1 kc hW8
 go_loopw [109] (fun s109 wr=>∃ j:Nat,s109=.int .i64 (j:Int)∧j≤4∧Hid (Below W8.heap.size W8 wr)) (fun s109 _=>4 - (intOf s109).toNat)
 case atStart=>exact ⟨0,rfl,Nat.zero_le _,Lib.hid (Below.refl _ _)⟩
 case round =>
  obtain ⟨j,rfl,hj,HBR⟩:=hrel
  have HB9:=Lib.hid (HB8.out.trans (HBR.out.mono HB8.out.size))
  have HL9:=Lib.hid (HL8.out.keep HBR.out)
  have HCa9:=Lib.hid ((HBR.out.cell (World.block_lt_of_cell? _ _ HCa8.out)).trans HCa8.out)
  have HCb9:=Lib.hid ((HBR.out.cell (World.block_lt_of_cell? _ _ HCb8.out)).trans HCb8.out)
  have HCc9:=Lib.hid ((HBR.out.cell (World.block_lt_of_cell? _ _ HCc8.out)).trans HCc8.out)
  have HCd9:=Lib.hid ((HBR.out.cell (World.block_lt_of_cell? _ _ HCd8.out)).trans HCd8.out)
  have HT9:=Lib.hid (HT8.out.keep HBR.out)
  have HV9:=Lib.hid (tab_keep HV8.out HBR.out)
  have HK9:=Lib.hid ((HBR.out.cell (World.block_lt_of_cell? _ _ HK8.out)).trans HK8.out)
  have HJ9:=Lib.hid ((HBR.out.cell (World.block_lt_of_cell? _ _ HJ8.out)).trans HJ8.out)
  have HU9:=Lib.hid (tab_keep HU8.out HBR.out)
  have HWa9:=Lib.hid ((HBR.out.cell (World.block_lt_of_cell? _ _ HWa8.out)).trans HWa8.out)
  have HWb9:=Lib.hid ((HBR.out.cell (World.block_lt_of_cell? _ _ HWb8.out)).trans HWb8.out)
  by_cases hj4:j < 4
  rotate_left
  ·obtain rfl:j=4:=by omega
   go_wp2
   go_ret
   exact ⟨rfl,HB9.out⟩
  have hjd:decide ((j:Int) < 4)=true:=decide_eq_true (by omega)
  obtain ⟨x,hx⟩:∃ x,TX[j]?=some x:=⟨_,List.getElem?_eq_getElem (by rw [HTL.out];exact hj4)⟩
  have cx:=(HBR.out.cell (World.block_lt_of_cell? _ _ (HTC.out j x hx))).trans (HTC.out j x hx)
  clear hx
  obtain ⟨n0,n1,n2,n3,n4,n5,n6,n7,n8⟩:=HT9.out.nine
  rw [HNF.out] at n1
  go_wp2
  clear n0 n1 n2 n3 n4 n5 n6 n7 n8 cx hjd
  go_loopw [116] (fun s116 wr2=>∃ i:Nat,s116=.int .i64 (i:Int)∧i≤nf∧Hid (Below wr.heap.size wr wr2)) (fun s116 _=>nf - (intOf s116).toNat)
  case atStart=>exact ⟨0,rfl,Nat.zero_le _,Lib.hid (Below.refl _ _)⟩
  case round =>
   obtain ⟨i,rfl,hi,HBI⟩:=hrel
   rename World=>wi
   have HB10:=Lib.hid (HB9.out.trans (HBI.out.mono HB9.out.size))
   have HL10:=Lib.hid (HL9.out.keep HBI.out)
   have HCa10:=Lib.hid ((HBI.out.cell (World.block_lt_of_cell? _ _ HCa9.out)).trans HCa9.out)
   have HCb10:=Lib.hid ((HBI.out.cell (World.block_lt_of_cell? _ _ HCb9.out)).trans HCb9.out)
   have HCc10:=Lib.hid ((HBI.out.cell (World.block_lt_of_cell? _ _ HCc9.out)).trans HCc9.out)
   have HCd10:=Lib.hid ((HBI.out.cell (World.block_lt_of_cell? _ _ HCd9.out)).trans HCd9.out)
   have HT10:=Lib.hid (HT9.out.keep HBI.out)
   have HV10:=Lib.hid (tab_keep HV9.out HBI.out)
   have HK10:=Lib.hid ((HBI.out.cell (World.block_lt_of_cell? _ _ HK9.out)).trans HK9.out)
   have HJ10:=Lib.hid ((HBI.out.cell (World.block_lt_of_cell? _ _ HJ9.out)).trans HJ9.out)
   have HU10:=Lib.hid (tab_keep HU9.out HBI.out)
   have HWa10:=Lib.hid ((HBI.out.cell (World.block_lt_of_cell? _ _ HWa9.out)).trans HWa9.out)
   have HWb10:=Lib.hid ((HBI.out.cell (World.block_lt_of_cell? _ _ HWb9.out)).trans HWb9.out)
   by_cases hin:i < nf
   rotate_left
   ·obtain rfl:i=nf:=by omega
    have HRR:=Lib.hid (HBR.out.trans (HBI.out.mono HBR.out.size))
    go_wp2
    go_roundw
    case rel=>exact ⟨j+1,by go_num,by omega,HRR⟩
    case measure=>simp [intOf];omega
   obtain ⟨y,hy⟩:∃ y,M.flows[i]?=some y:=⟨_,List.getElem?_eq_getElem (by rw [HNF.out];exact hin)⟩
   obtain ⟨b0,o,e',hat⟩:=Fa.ElsV.at_ HT10.out.mast.flows hy
   cases e'
   obtain ⟨d0,d1⟩:=Fl.two hat
   have hb11:=(Below.refl wi.heap.size wi).alloc (Nat.le_refl _) (.cells #[.string y.code,.int .i64 y.kind] 70)
   obtain ⟨hf0,hf1⟩:=fl_new' wi y
   obtain ⟨W11,hW11⟩:∃ W11,wi.alloc (.cells #[.string y.code,.int .i64 y.kind] 70)=W11:=⟨_,rfl⟩
   rw [hW11] at hb11 hf0 hf1
   have HFa11:=Lib.hid hf0
   have HB11:=Lib.hid (HB10.out.trans (hb11.mono HB10.out.size))
   have HL11:=Lib.hid (HL10.out.keep hb11)
   have HCa11:=Lib.hid ((hb11.cell (World.block_lt_of_cell? _ _ HCa10.out)).trans HCa10.out)
   have HCb11:=Lib.hid ((hb11.cell (World.block_lt_of_cell? _ _ HCb10.out)).trans HCb10.out)
   have HCc11:=Lib.hid ((hb11.cell (World.block_lt_of_cell? _ _ HCc10.out)).trans HCc10.out)
   have HCd11:=Lib.hid ((hb11.cell (World.block_lt_of_cell? _ _ HCd10.out)).trans HCd10.out)
   have HT11:=Lib.hid (HT10.out.keep hb11)
   have HV11:=Lib.hid (tab_keep HV10.out hb11)
   have HK11:=Lib.hid ((hb11.cell (World.block_lt_of_cell? _ _ HK10.out)).trans HK10.out)
   have HJ11:=Lib.hid ((hb11.cell (World.block_lt_of_cell? _ _ HJ10.out)).trans HJ10.out)
   have HU11:=Lib.hid (tab_keep HU10.out hb11)
   have HWa11:=Lib.hid ((hb11.cell (World.block_lt_of_cell? _ _ HWa10.out)).trans HWa10.out)
   have HWb11:=Lib.hid ((hb11.cell (World.block_lt_of_cell? _ _ HWb10.out)).trans HWb10.out)
   have HR11:=Lib.hid (HBI.out.trans (hb11.mono HBI.out.size))
   have HC:=Lib.hid (HMC.out x y)
   have HKK:=Lib.hid (HMK.out x y)
   have HF:=Lib.hid (HMF.out x y)
   have HC1:=Lib.hid (fun W h hV=>HPO.out x y.code W (.slice p5 l5 c5) h hV)
   have HC2:=Lib.hid (fun W h hV=>HPK.out x y.code W vt h hV)
   obtain ⟨yc,yk⟩:=y
   dsimp only at HC HKK HF HC1 HC2 HFa11 hf0 hf1 hW11 d0 d1
   obtain ⟨⟨⟨N1,D1⟩,G1⟩,hO1⟩:∃ O,ofC M T x yc=O:=⟨_,rfl⟩
   obtain ⟨⟨⟨N2,D2⟩,G2⟩,hO2⟩:∃ O,ofC M K x yc=O:=⟨_,rfl⟩
   simp only [hO1] at HC HKK HF HC1
   simp only [hO2] at HC HKK HF HC2
   clear hy hat hb11 hO1 hO2
   obtain ⟨n0,n1,n2,n3,n4,n5,n6,n7,n8⟩:=HT11.out.nine
   have t0:=HK11.out
   go_wp2_with fail
   clear n0 n1 n2 n3 n4 n5 n6 n7 n8 t0 hf0 hf1 d0 d1 hW11
   refine (HC1.out _ HT11.out.mast HV11.out).mono ?_
   rintro en w12 ⟨rfl,hb12⟩
   have hc12:=hb12.alloc hb12.size (.cells #[.int .i64 N1,.int .i64 D1] 53)
   have hr12:=Ra.RateAt.mk w12 N1 D1 53
   obtain ⟨W12,hW12⟩:∃ W5,w12.alloc (.cells #[.int .i64 N1,.int .i64 D1] 53)=W5:=⟨_,rfl⟩
   rw [hW12] at hc12 hr12
   have HX12:=Lib.hid hr12
   have HB12:=Lib.hid (HB11.out.trans (hc12.mono HB11.out.size))
   have HL12:=Lib.hid (HL11.out.keep hc12)
   have HCa12:=Lib.hid ((hc12.cell (World.block_lt_of_cell? _ _ HCa11.out)).trans HCa11.out)
   have HCb12:=Lib.hid ((hc12.cell (World.block_lt_of_cell? _ _ HCb11.out)).trans HCb11.out)
   have HCc12:=Lib.hid ((hc12.cell (World.block_lt_of_cell? _ _ HCc11.out)).trans HCc11.out)
   have HCd12:=Lib.hid ((hc12.cell (World.block_lt_of_cell? _ _ HCd11.out)).trans HCd11.out)
   have HT12:=Lib.hid (HT11.out.keep hc12)
   have HV12:=Lib.hid (tab_keep HV11.out hc12)
   have HK12:=Lib.hid ((hc12.cell (World.block_lt_of_cell? _ _ HK11.out)).trans HK11.out)
   have HJ12:=Lib.hid ((hc12.cell (World.block_lt_of_cell? _ _ HJ11.out)).trans HJ11.out)
   have HU12:=Lib.hid (tab_keep HU11.out hc12)
   have HWa12:=Lib.hid ((hc12.cell (World.block_lt_of_cell? _ _ HWa11.out)).trans HWa11.out)
   have HWb12:=Lib.hid ((hc12.cell (World.block_lt_of_cell? _ _ HWb11.out)).trans HWb11.out)
   have HFa12:=Lib.hid ((hc12.cell (World.block_lt_of_cell? _ _ HFa11.out)).trans HFa11.out)
   have HR12:=Lib.hid (HR11.out.trans (hc12.mono HR11.out.size))
   clear HB11 HL11 HCa11 HCb11 HCc11 HCd11 HT11 HV11 HK11 HJ11 HU11 HWa11 HWb11 HFa11 HR11
   clear hb12 hc12 hr12 HC1
   obtain ⟨n0,n1,n2,n3,n4,n5,n6,n7,n8⟩:=HT12.out.nine
   have t0:=HJ12.out
   have f0:=HFa12.out
   go_wp2_with fail
   clear n0 n1 n2 n3 n4 n5 n6 n7 n8 t0 f0 hW12
   refine (HC2.out _ HT12.out.mast HU12.out).mono ?_
   rintro en w13 ⟨rfl,hb13⟩
   have hc13:=hb13.alloc hb13.size (.cells #[.int .i64 N2,.int .i64 D2] 53)
   have hr13:=Ra.RateAt.mk w13 N2 D2 53
   obtain ⟨W13,hW13⟩:∃ W5,w13.alloc (.cells #[.int .i64 N2,.int .i64 D2] 53)=W5:=⟨_,rfl⟩
   rw [hW13] at hc13 hr13
   have HY13:=Lib.hid hr13
   have HB13:=Lib.hid (HB12.out.trans (hc13.mono HB12.out.size))
   have HL13:=Lib.hid (HL12.out.keep hc13)
   have HCa13:=Lib.hid ((hc13.cell (World.block_lt_of_cell? _ _ HCa12.out)).trans HCa12.out)
   have HCb13:=Lib.hid ((hc13.cell (World.block_lt_of_cell? _ _ HCb12.out)).trans HCb12.out)
   have HCc13:=Lib.hid ((hc13.cell (World.block_lt_of_cell? _ _ HCc12.out)).trans HCc12.out)
   have HCd13:=Lib.hid ((hc13.cell (World.block_lt_of_cell? _ _ HCd12.out)).trans HCd12.out)
   have HT13:=Lib.hid (HT12.out.keep hc13)
   have HV13:=Lib.hid (tab_keep HV12.out hc13)
   have HK13:=Lib.hid ((hc13.cell (World.block_lt_of_cell? _ _ HK12.out)).trans HK12.out)
   have HJ13:=Lib.hid ((hc13.cell (World.block_lt_of_cell? _ _ HJ12.out)).trans HJ12.out)
   have HU13:=Lib.hid (tab_keep HU12.out hc13)
   have HWa13:=Lib.hid ((hc13.cell (World.block_lt_of_cell? _ _ HWa12.out)).trans HWa12.out)
   have HWb13:=Lib.hid ((hc13.cell (World.block_lt_of_cell? _ _ HWb12.out)).trans HWb12.out)
   have HFa13:=Lib.hid ((hc13.cell (World.block_lt_of_cell? _ _ HFa12.out)).trans HFa12.out)
   have HR13:=Lib.hid (HR12.out.trans (hc13.mono HR12.out.size))
   have HX13:=Lib.hid (HX12.out.keep hc13 (Nat.le_refl _))
   clear HB12 HL12 HCa12 HCb12 HCc12 HCd12 HT12 HV12 HK12 HJ12 HU12 HWa12 HWb12 HFa12 HR12 HX12
   clear hb13 hc13 hr13 HC2
   go_upto_region 30 with (fail)
   clear hW13
   go_cut [158] (fun s158 wx2=>s158=.bool false∧W13=wx2)
   case first =>
    obtain ⟨x0,x1⟩:=HX13.out
    obtain ⟨y0,y1⟩:=HY13.out
    cases q1:(x.toList==wc.toList) with
    | true =>
      by_cases hg:G1=0
      ·obtain rfl:G2=0:=HKK.out hg
       subst hg
       all_goals (go_wp2_with fail;go_meet)
       case rel=>exact ⟨rfl,rfl⟩
      ·have hg1:(G1==0)=false:=by simpa using hg
       clear hg
       go_wp2_with fail
       go_meet
       case rel=>exact ⟨rfl,rfl⟩
    | false =>
      have e:=HC.out ((Lib.bytes_beq_false_iff _ _).1 q1)
      obtain ⟨⟨rfl,rfl⟩,rfl⟩:(N2=N1∧D2=D1)∧G2=G1:=by simpa using e
      clear e
      by_cases hg:G2=0
      ·subst hg
       go_wp2_with fail
       go_meet
       case rel=>exact ⟨rfl,rfl⟩
      ·have hg1:(G2==0)=false:=by simpa using hg
       clear hg
       go_wp2_with fail
       go_meet
       case rel=>exact ⟨rfl,rfl⟩
   case rest =>
   obtain ⟨rfl,rfl⟩:=hcut
   go_upto_region 32 with (fail)
   go_cut [180] (fun s180 wx2=>s180=.bool false∧Hid (Below W13.heap.size W13 wx2))
   case first =>
    have ka:=HWa13.out
    have kb:=HWb13.out
    have kf:=HFa13.out
    obtain ⟨x0,x1⟩:=HX13.out
    obtain ⟨y0,y1⟩:=HY13.out
    have ra:=fun p:Past W13=>cell_past ka p
    have rb:=fun p:Past W13=>cell_past kb p
    have rf:=fun p:Past W13=>cell_past kf p
    have rx0:=fun p:Past W13=>cell_past x0 p
    have rx1:=fun p:Past W13=>cell_past x1 p
    have ry0:=fun p:Past W13=>cell_past y0 p
    have ry1:=fun p:Past W13=>cell_past y1 p
    clear ka kb kf x0 x1 y0 y1
    cases q2:(wa.toList==[102,108,111,119]) with
    | false =>
      refine wp_region_plan (.last [0,1,2,3,4,5,6,7,8,9,10,11,12,13,14,15,16,17,18,19,20,21]) (by kernel_rfl) (by kernel_rfl) (fun d _ _ _ _ h=>by cases d <;> exact h) ?_
      obtain ⟨wz,hwz⟩:∃ wz,W13.drew=wz:=⟨_,rfl⟩
      rw [hwz]
      have HDZ:=Lib.hid (show Below W13.heap.size W13 wz by rw [←hwz];exact ⟨rfl,rfl,rfl,Nat.le_refl _,fun _ _=>rfl⟩)
      clear hwz
      simp only [wpPlan,pick,nth]
      repeat (go_big_quiet_step (fail))
      refine wpQuiet_nil ?_
      go_wp2_with fail
      go_meet
      case rel=>exact ⟨rfl,HDZ⟩
    | true =>
      cases q3:(yc.toList==wb.toList) with
      | true =>
        refine wp_region_plan (.last [0,1,2,3,4,5,6,7,8,9,10,11,12,13,14,15,16,17,18,19,20,21]) (by kernel_rfl) (by kernel_rfl) (fun d _ _ _ _ h=>by cases d <;> exact h) ?_
        obtain ⟨wz,hwz⟩:∃ wz,W13.drew=wz:=⟨_,rfl⟩
        rw [hwz]
        have HDZ:=Lib.hid (show Below W13.heap.size W13 wz by rw [←hwz];exact ⟨rfl,rfl,rfl,Nat.le_refl _,fun _ _=>rfl⟩)
        clear hwz
        simp only [wpPlan,pick,nth]
        repeat (go_big_quiet_step (fail))
        refine wpQuiet_nil ?_
        go_wp2_with fail
        go_meet
        case rel=>exact ⟨rfl,HDZ⟩
      | false =>
        have h0:wa=tFlow:=(Lib.bytes_beq_iff _ _).1 (by rw [flow_list];exact q2)
        have e:=HF.out h0 ((Lib.bytes_beq_false_iff _ _).1 q3)
        obtain ⟨⟨rfl,rfl⟩,rfl⟩:(N2=N1∧D2=D1)∧G2=G1:=by simpa using e
        clear e h0
        refine wp_region_plan (.last [0,1,2,3,4,5,6,7,8,9,10,11,12,13,14,15,16,17,18,19,20,21]) (by kernel_rfl) (by kernel_rfl) (fun d _ _ _ _ h=>by cases d <;> exact h) ?_
        obtain ⟨wz,hwz⟩:∃ wz,W13.drew=wz:=⟨_,rfl⟩
        rw [hwz]
        have HDZ:=Lib.hid (show Below W13.heap.size W13 wz by rw [←hwz];exact ⟨rfl,rfl,rfl,Nat.le_refl _,fun _ _=>rfl⟩)
        clear hwz
        simp only [wpPlan,pick,nth]
        repeat (go_big_quiet_step (fail))
        refine wpQuiet_nil ?_
        go_wp2_with fail
        go_meet
        case rel=>exact ⟨rfl,HDZ⟩
   case rest =>
   obtain ⟨rfl,HBX⟩:=hcut
   rename World=>wx3
   have HRF:=Lib.hid (HR13.out.trans (HBX.out.mono HR13.out.size))
   go_wp2
   go_roundw
   case rel=>exact ⟨i+1,by go_num,by omega,HRF⟩
   case measure=>simp [intOf];omega
end Go.Proofs.YthcpglnmhimepaaGreatDoor.Cs
