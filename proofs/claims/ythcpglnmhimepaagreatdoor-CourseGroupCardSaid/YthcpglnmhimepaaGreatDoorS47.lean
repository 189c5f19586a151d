/- CsAlive -/
import Derived.Test.YthcpglnmhimepaaGreatDoorS46
namespace Go.Proofs.YthcpglnmhimepaaGreatDoor.Cs
open Go.RowKit Go.Maps Go.Proofs.YthcpglnmhimepaaGreatDoor.Un Go.Proofs.YthcpglnmhimepaaGreatDoor.Pk
section
variable {M:Mast} (h:SmallM false M)
include h
theorem small_ok:MastOk M:=by
 have hr:=Fl.rise_codes h.sane.fl
 refine ⟨hr,h.sane.lf,fun c hc=>?_,fun f hf=>?_⟩
 ·unfold hasFl at hc
  unfold kindF
  cases hf:Fl.findF M.flows c with
  | none=>rw [hf] at hc;cases hc
  | some y =>
    have:=(Fl.right_parts (h.rt y (findK_mem hf).2)).2
    show 0≤y.kind∧y.kind < 5
    omega
 ·obtain ⟨_,_,x,h1,h2⟩:=Fl.kind_of hr (Fl.mem_of.2 ⟨f,hf,rfl,rfl⟩)
  unfold hasFl kindF
  rw [h1]
  exact ⟨rfl,h2⟩
theorem tab14:TabOk M c14:=by
 have:=tab_ok M t14 (by decide)
 rw [parse14 h] at this
 exact this
end
theorem list14:p14.toList=[97,118,101,114,97,103,101,32,69,85,82,32,51,10,99,108,111,115,101,32,69,85,82,32,49,49,47,49,48,10,102,108,111,119,32,70,49,32,69,85,82,32,50,10]:=by kernel_rfl
theorem tab_box (w:World) (v:Value):(w.alloc (.cells #[v] 41)).cell? ⟨w.heap.size,0,none⟩=some v:=(cell_of_row _ w.heap.size 0 _ _ (0,0) (heap_alloc_new w _)).trans rfl
set_option maxRecDepth 100000 in
set_option maxHeartbeats 16000000 in
theorem alive14_any (w:World) (hl:LaidP w):Calls Tryz.prog 10 #[] w fun en w'=>en=.returned (.bool true)∧Below w.heap.size w w':=by
 have HL:=Lib.hid hl
 clear hl
 go_enter Tryz.func10,Tryz.ntmps10
 go_wp2_with fail
 refine (parse_smallP false _ (by kernel_rfl) _ HL.out).mono ?_
 rintro en w1 ⟨M,c,f,e,l,hS,rfl,hm,hb1⟩
 obtain ⟨pc,cc,pf,cf,pe,ce,pl,cl,rfl,rfl,rfl,rfl⟩:=shapes hm
 have hb2:=(Below.refl w1.heap.size w1).alloc (Nat.le_refl _) (.cells (cellsM (.slice pc M.chart.length cc) (.slice pf M.flows.length cf) (.slice pe M.ents.length ce) (.slice pl M.lines.length cl) M) 30)
 have HB2:=Lib.hid (hb1.trans (hb2.mono hb1.size))
 have HM2:=Lib.hid (hm.keep hb2)
 have HN2:=Lib.hid (nine_new w1 (.slice pc M.chart.length cc) (.slice pf M.flows.length cf) (.slice pe M.ents.length ce) (.slice pl M.lines.length cl) M 30)
 have HL2:=Lib.hid (HL.out.keep HB2.out)
 have ho:=small_ok hS
 have HP14:=Lib.hid (fun W h hL=>by
  have:=pparse_ok (c:=(.slice pc M.chart.length cc)) (f:=(.slice pf M.flows.length cf)) (e:=(.slice pe M.ents.length ce)) (l:=(.slice pl M.lines.length cl)) (M:=M) t14 W h ho (by decide) hL
  rw [parse14 hS] at this
  exact this)
 have HU14:=Lib.hid (fun W h hL=>by
  have:=pparse_ok (c:=(.slice pc M.chart.length cc)) (f:=(.slice pf M.flows.length cf)) (e:=(.slice pe M.ents.length ce)) (l:=(.slice pl M.lines.length cl)) (M:=M) u14 W h ho (by decide) hL
  rw [group14 hS] at this
  exact this)
 have HOZ:=Lib.hid (fun W (v:Value) h (hV:TabV W v c14)=>by
  have:=pof_ok (cv:=(.slice pc M.chart.length cc)) (fv:=(.slice pf M.flows.length cf)) (e:=(.slice pe M.ents.length ce)) (l:=(.slice pl M.lines.length cl)) (M:=M) (L:=c14) xEUR xFz W h ho hV (tab14 hS).rd
  rw [of14z hS] at this
  exact this)
 have HOU:=Lib.hid (fun W (v:Value) h (hV:TabV W v c14)=>by
  have:=pof_ok (cv:=(.slice pc M.chart.length cc)) (fv:=(.slice pf M.flows.length cf)) (e:=(.slice pe M.ents.length ce)) (l:=(.slice pl M.lines.length cl)) (M:=M) (L:=c14) xU xFz W h ho hV (tab14 hS).rd
  rw [of14u hS] at this
  exact this)
 have HOF:=Lib.hid (fun W (v:Value) h (hV:TabV W v c14)=>by
  have:=pof_ok (cv:=(.slice pc M.chart.length cc)) (fv:=(.slice pf M.flows.length cf)) (e:=(.slice pe M.ents.length ce)) (l:=(.slice pl M.lines.length cl)) (M:=M) (L:=c14) xEUR xF1 W h ho hV (tab14 hS).rd
  rw [of14f hS] at this
  exact this)
 have HOO:=Lib.hid (fun W (v:Value) h (hV:TabV W v c14)=>by
  have:=pof_ok (cv:=(.slice pc M.chart.length cc)) (fv:=(.slice pf M.flows.length cf)) (e:=(.slice pe M.ents.length ce)) (l:=(.slice pl M.lines.length cl)) (M:=M) (L:=c14) xEUR xF0 W h ho hV (tab14 hS).rd
  rw [of14o hS] at this
  exact this)
 have HPR:=Lib.hid (fun W (v:Value) (hV:TabV W v c14) hL=>by
  have:=pprint_ok (M:=M) W hV (tab14 hS) hL
  rw [print14] at this
  exact this)
 clear hm hb1 hb2 hS ho
 obtain ⟨k0,k1,k2,k3,k4,k5,k6,k7,k8⟩:=HN2.out
 go_wp2_with fail
 clear k0 k1 k2 k3 k4 k5 k6 k7 k8
 refine (HP14.out _ HM2.out HL2.out).mono ?_
 rintro en w3 ⟨v,rfl,hv3,hb3⟩
 dsimp only at hv3
 obtain ⟨p,cp,rfl⟩:=tab_slice hv3
 have hb4:=hb3.alloc hb3.size (.cells #[.slice p c14.length cp] 41)
 have hb34:=(Below.refl w3.heap.size w3).alloc (Nat.le_refl _) (.cells #[.slice p c14.length cp] 41)
 have HT4:=Lib.hid (tab_box w3 (.slice p c14.length cp))
 have HV4:=Lib.hid (tab_keep hv3 hb34)
 have HB4:=Lib.hid (HB2.out.trans (hb4.mono HB2.out.size))
 have HM4:=Lib.hid (HM2.out.keep hb4)
 have HN4:=Lib.hid (HN2.out.kept hb4)
 have HL4:=Lib.hid (HL2.out.keep hb4)
 clear hv3 hb3 hb4 hb34 HB2 HM2 HN2 HL2 HP14
 obtain ⟨W4,hW4⟩:∃ W4,w3.alloc (.cells #[.slice p c14.length cp] 41)=W4:=⟨_,rfl⟩
 rw [hW4] at HT4 HV4 HB4 HM4 HN4 HL4
 have hlen:c14.length=3:=rfl
 rw [hlen] at HT4 HV4 hW4 ⊢
 clear hlen
 obtain ⟨k0,k1,k2,k3,k4,k5,k6,k7,k8⟩:=HN4.out
 have t0:=HT4.out
 go_wp2_with fail
 clear k0 k1 k2 k3 k4 k5 k6 k7 k8 t0 hW4
 refine (HOZ.out _ _ HM4.out HV4.out).mono ?_
 rintro en w5 ⟨rfl,hb5⟩
 dsimp only
 have hc5:=hb5.alloc hb5.size (.cells #[.int .i64 11,.int .i64 10] 53)
 have RA5:=Lib.hid (Ra.RateAt.mk w5 11 10 53)
 obtain ⟨W5,hW5⟩:∃ W,w5.alloc (.cells #[.int .i64 11,.int .i64 10] 53)=W:=⟨_,rfl⟩
 rw [hW5] at hc5 RA5
 clear HOZ
 have HB5:=Lib.hid (HB4.out.trans (hc5.mono HB4.out.size))
 have HM5:=Lib.hid (HM4.out.keep hc5)
 have HN5:=Lib.hid (HN4.out.kept hc5)
 have HL5:=Lib.hid (HL4.out.keep hc5)
 have HT5:=Lib.hid ((hc5.cell (World.block_lt_of_cell? _ _ HT4.out)).trans HT4.out)
 have HV5:=Lib.hid (tab_keep HV4.out hc5)
 clear HB4 HM4 HN4 HL4 HT4 HV4
 clear hb5 hc5
 obtain ⟨k0,k1,k2,k3,k4,k5,k6,k7,k8⟩:=HN5.out
 have t0:=HT5.out
 go_wp2_with fail
 clear k0 k1 k2 k3 k4 k5 k6 k7 k8 t0 hW5
 refine (HOU.out _ _ HM5.out HV5.out).mono ?_
 rintro en w6 ⟨rfl,hb6⟩
 dsimp only
 have hc6:=hb6.alloc hb6.size (.cells #[.int .i64 1,.int .i64 1] 53)
 have RB6:=Lib.hid (Ra.RateAt.mk w6 1 1 53)
 obtain ⟨W6,hW6⟩:∃ W,w6.alloc (.cells #[.int .i64 1,.int .i64 1] 53)=W:=⟨_,rfl⟩
 rw [hW6] at hc6 RB6
 clear HOU
 have HB6:=Lib.hid (HB5.out.trans (hc6.mono HB5.out.size))
 have HM6:=Lib.hid (HM5.out.keep hc6)
 have HN6:=Lib.hid (HN5.out.kept hc6)
 have HL6:=Lib.hid (HL5.out.keep hc6)
 have HT6:=Lib.hid ((hc6.cell (World.block_lt_of_cell? _ _ HT5.out)).trans HT5.out)
 have HV6:=Lib.hid (tab_keep HV5.out hc6)
 have RA6:=Lib.hid (RA5.out.keep hc6 (Nat.le_refl _))
 clear HB5 HM5 HN5 HL5 HT5 HV5 RA5
 clear hb6 hc6
 obtain ⟨k0,k1,k2,k3,k4,k5,k6,k7,k8⟩:=HN6.out
 have t0:=HT6.out
 go_wp2_with fail
 clear k0 k1 k2 k3 k4 k5 k6 k7 k8 t0 hW6
 refine (HOF.out _ _ HM6.out HV6.out).mono ?_
 rintro en w7 ⟨rfl,hb7⟩
 dsimp only
 have hc7:=hb7.alloc hb7.size (.cells #[.int .i64 2,.int .i64 1] 53)
 have RC7:=Lib.hid (Ra.RateAt.mk w7 2 1 53)
 obtain ⟨W7,hW7⟩:∃ W,w7.alloc (.cells #[.int .i64 2,.int .i64 1] 53)=W:=⟨_,rfl⟩
 rw [hW7] at hc7 RC7
 clear HOF
 have HB7:=Lib.hid (HB6.out.trans (hc7.mono HB6.out.size))
 have HM7:=Lib.hid (HM6.out.keep hc7)
 have HN7:=Lib.hid (HN6.out.kept hc7)
 have HL7:=Lib.hid (HL6.out.keep hc7)
 have HT7:=Lib.hid ((hc7.cell (World.block_lt_of_cell? _ _ HT6.out)).trans HT6.out)
 have HV7:=Lib.hid (tab_keep HV6.out hc7)
 have RA7:=Lib.hid (RA6.out.keep hc7 (Nat.le_refl _))
 have RB7:=Lib.hid (RB6.out.keep hc7 (Nat.le_refl _))
 clear HB6 HM6 HN6 HL6 HT6 HV6 RA6 RB6
 clear hb7 hc7
 obtain ⟨k0,k1,k2,k3,k4,k5,k6,k7,k8⟩:=HN7.out
 have t0:=HT7.out
 go_wp2_with fail
 clear k0 k1 k2 k3 k4 k5 k6 k7 k8 t0 hW7
 refine (HOO.out _ _ HM7.out HV7.out).mono ?_
 rintro en w8 ⟨rfl,hb8⟩
 dsimp only
 have hc8:=hb8.alloc hb8.size (.cells #[.int .i64 0,.int .i64 0] 53)
 have RD8:=Lib.hid (Ra.RateAt.mk w8 0 0 53)
 clear HOO
 have HB8:=Lib.hid (HB7.out.trans (hc8.mono HB7.out.size))
 have HM8:=Lib.hid (HM7.out.keep hc8)
 have HN8:=Lib.hid (HN7.out.kept hc8)
 have HL8:=Lib.hid (HL7.out.keep hc8)
 have HT8:=Lib.hid ((hc8.cell (World.block_lt_of_cell? _ _ HT7.out)).trans HT7.out)
 have HV8:=Lib.hid (tab_keep HV7.out hc8)
 have RA8:=Lib.hid (RA7.out.keep hc8 (Nat.le_refl _))
 have RB8:=Lib.hid (RB7.out.keep hc8 (Nat.le_refl _))
 have RC8:=Lib.hid (RC7.out.keep hc8 (Nat.le_refl _))
 clear HB7 HM7 HN7 HL7 HT7 HV7 RA7 RB7 RC7
 clear hb8 hc8
 obtain ⟨k0,k1,k2,k3,k4,k5,k6,k7,k8⟩:=HN8.out
 go_wp2_with fail
 clear k0 k1 k2 k3 k4 k5 k6 k7 k8
 refine (HU14.out _ HM8.out HL8.out).mono ?_
 rintro en w9 ⟨v9,rfl,hv9,hb9⟩
 dsimp only at hv9
 obtain ⟨p9,cp9,rfl⟩:=tab_slice hv9
 have hc9:=hb9.alloc hb9.size (.cells #[.slice p9 0 cp9] 41)
 clear hv9
 have HB9:=Lib.hid (HB8.out.trans (hc9.mono HB8.out.size))
 have HM9:=Lib.hid (HM8.out.keep hc9)
 have HN9:=Lib.hid (HN8.out.kept hc9)
 have HL9:=Lib.hid (HL8.out.keep hc9)
 have HT9:=Lib.hid ((hc9.cell (World.block_lt_of_cell? _ _ HT8.out)).trans HT8.out)
 have HV9:=Lib.hid (tab_keep HV8.out hc9)
 have RA9:=Lib.hid (RA8.out.keep hc9 (Nat.le_refl _))
 have RB9:=Lib.hid (RB8.out.keep hc9 (Nat.le_refl _))
 have RC9:=Lib.hid (RC8.out.keep hc9 (Nat.le_refl _))
 have RD9:=Lib.hid (RD8.out.keep hc9 (Nat.le_refl _))
 clear HB8 HM8 HN8 HL8 HT8 HV8 RA8 RB8 RC8 RD8
 clear hb9 hc9 HU14
 have t0:=HT9.out
 obtain ⟨ra0,ra1⟩:=RA9.out
 obtain ⟨rb0,rb1⟩:=RB9.out
 obtain ⟨rc0,rc1⟩:=RC9.out
 obtain ⟨rd0,rd1⟩:=RD9.out
 go_wp2_with fail
 clear t0 ra0 ra1 rb0 rb1 rc0 rc1 rd0 rd1
 refine (HPR.out _ _ HV9.out HL9.out).mono ?_
 rintro en w10 ⟨rfl,hb10⟩
 have HB10:=Lib.hid (HB9.out.trans (hb10.mono HB9.out.size))
 clear hb10
 have hp14:(p14.toList==[97,118,101,114,97,103,101,32,69,85,82,32,51,10,99,108,111,115,101,32,69,85,82,32,49,49,47,49,48,10,102,108,111,119,32,70,49,32,69,85,82,32,50,10])=true:=by rw [list14];rfl
 go_wp2
 go_ret
 exact ⟨rfl,HB10.out⟩
end Go.Proofs.YthcpglnmhimepaaGreatDoor.Cs
