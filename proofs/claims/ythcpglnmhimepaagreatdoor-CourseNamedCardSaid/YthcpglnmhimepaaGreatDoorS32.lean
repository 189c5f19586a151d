/- UnitRead UnitReadB UnitParse UnitDocSmall -/
import Derived.BigRegion
import Derived.Test.YthcpglnmhimepaaGreatDoorS30
section
namespace Go.Proofs.YthcpglnmhimepaaGreatDoor.Un
open Go.RowKit Go.Maps
def LineTold (W:World) (B R m n:Nat) (M:Mast) (E:Int) (en:Ending) (W':World):Prop :=
 en=.returned (.int .i64 E)∧Below B W W'∧(E=0→∃ c f e l D,RdAt W' B R m c f e l n D M∧StoodOk D M)
theorem RdAt.mono {W:World} {B R m n k:Nat} {c f e l:Value} {D:DataW Unit} {M:Mast} (h:RdAt W B R m c f e l n D M) (hk:n≤k):RdAt W B R m c f e l k D M :=
 ⟨h.box,h.chart,h.flows,h.ents,h.lines,h.map.mono hk,h.geR,h.geM⟩
theorem RdAt.mapTurned {W W':World} {B R m n k:Nat} {c f e l:Value} {D D':DataW Unit} {M:Mast} (h:RdAt W B R m c f e l n D M) (hg:W.grownBy W' (some m)) (hm:MapRd W' m k D'):RdAt W' B R m c f e l k D' M:=by
 have hne:∀ {B':Nat} {e':TypeId} {s q:Nat} {v:Value} {xs:List Value},W.ownsRow B' e' s v q xs→v.ownBlock=none∨v.ownBlock≠some m:=fun hr=>.inr (map_apart h.map hr).symm
 refine ⟨(hg.block R h.lt (fun e0=>?_)).trans h.box,h.chart.kept hg (hne h.chart),h.flows.kept hg (hne h.flows),h.ents.kept hg (hne h.ents),h.lines.kept hg (hne h.lines),hm,h.geR,h.geM⟩
 cases e0
 obtain ⟨es,cl,hb,_⟩:=h.map
 have:=h.box
 unfold BoxRd at this
 rw [hb] at this;cases this
set_option maxRecDepth 100000 in
set_option maxHeartbeats 8000000 in
theorem read_head (v:Value) (ws:List ByteArray) (W0 W:World) (R m n:Nat) (c f e l:Value) (D:DataW Unit) (M:Mast) (hv0:StrsV W0 v ws) (h0:0 < ws.length) (hl:Laid W0) (hlf:Fl.Laid W0) (hb:Below W0.heap.size W0 W) (h:RdAt W W0.heap.size R m c f e l n D M) (hst:StoodOk D M) (hs:Sane M)
 (hw:wd ws 0=tAccount∨wd ws 0=Fl.tFlow∨formedW ws=false) :
 Calls Tryz.prog 41 #[.pointer (some ⟨R,0,none⟩),v] W (LineTold W W0.heap.size R m (n+1) (stepV M ws) (stepE M ws)):=by
 have hv:=hv0.keep hb
 obtain ⟨x0,hx0⟩:∃ x,ws[0]?=some x:=⟨_,List.getElem?_eq_getElem h0⟩
 have hwd:wd ws 0=x0:=wd_of hx0
 have q1:=qAccount x0
 have q2:=qFlow x0
 by_cases w1:x0=tAccount
 ·rw [decide_eq_true w1] at q1
  have HV:Hid (stepV M ws={ M with chart:=insL M.chart (parseA ws).1 }):=Lib.hid (by unfold stepV;rw [if_pos (hwd.trans w1)])
  have HE:Hid (stepE M ws=(if (parseA ws).2=0 then addE M.chart (parseA ws).1 else (parseA ws).2)):=Lib.hid (by unfold stepE;rw [if_pos (hwd.trans w1)])
  have HRA:=Lib.hid (readAccount_any v ws W W0.heap.size R m n c f e l D M hv (hl.below hb (Nat.le_refl _)) h hb.size (by have:=hs.lc;omega))
  rw [←HV.out,←HE.out] at HRA
  have HSS:Hid (StoodOk D (stepV M ws)):=Lib.hid (by rw [HV.out];exact hst.same rfl rfl rfl rfl rfl rfl rfl)
  obtain ⟨E,hE⟩:∃ E,stepE M ws=E:=⟨_,rfl⟩
  obtain ⟨N,hN⟩:∃ N,stepV M ws=N:=⟨_,rfl⟩
  rw [hE,hN] at HRA ⊢
  rw [hN] at HSS
  obtain ⟨p,cp,rfl,_,_,hc⟩:=hv
  obtain ⟨g,o,rfl,k0⟩:=hc 0 x0 hx0
  rw [Nat.add_zero] at k0
  obtain ⟨nw,hnw⟩:∃ nw,ws.length=nw:=⟨_,rfl⟩
  rw [hnw] at HRA h0 ⊢
  clear hE hN hc hx0 hwd w1 hv0 hl hlf hst hs h hw HV HE hnw
  go_enter Tryz.func41,Tryz.ntmps41
  go_wp2_with fail
  refine HRA.out.mono ?_
  rintro en w1 ⟨rfl,hb1,hrd⟩
  have HB1:=Lib.hid hb1
  have HRD:=Lib.hid hrd
  clear hb1 hrd
  go_wp2
  go_ret
  exact ⟨rfl,HB1.out,fun h0=>by
   obtain ⟨c,f,e,l,hr⟩:=HRD.out h0
   exact ⟨c,f,e,l,D,hr.mono (Nat.le_succ _),HSS.out⟩⟩
 ·rw [decide_eq_false w1] at q1
  by_cases w2:x0=Fl.tFlow
  ·rw [decide_eq_true w2] at q2
   have HV:Hid (stepV M ws={ M with flows:=insK Fl.Flow.code M.flows (Fl.parseF ws).1 }):=Lib.hid (by unfold stepV;rw [hwd,if_neg w1,if_pos w2])
   have HE:Hid (stepE M ws=(if (Fl.parseF ws).2=0 then Fl.addE M.flows (Fl.parseF ws).1 else (Fl.parseF ws).2)):=Lib.hid (by unfold stepE;rw [hwd,if_neg w1,if_pos w2])
   have HRA:=Lib.hid (readFlow_any v ws W W0.heap.size R m n c f e l D M hv (hlf.below hb (Nat.le_refl _)) h hb.size (by have:=hs.lf;omega) (Fl.rise_codes hs.fl))
   rw [←HV.out,←HE.out] at HRA
   have HSS:Hid (StoodOk D (stepV M ws)):=Lib.hid (by rw [HV.out];exact hst.same rfl rfl rfl rfl rfl rfl rfl)
   obtain ⟨E,hE⟩:∃ E,stepE M ws=E:=⟨_,rfl⟩
   obtain ⟨N,hN⟩:∃ N,stepV M ws=N:=⟨_,rfl⟩
   rw [hE,hN] at HRA ⊢
   rw [hN] at HSS
   obtain ⟨p,cp,rfl,_,_,hc⟩:=hv
   obtain ⟨g,o,rfl,k0⟩:=hc 0 x0 hx0
   rw [Nat.add_zero] at k0
   obtain ⟨nw,hnw⟩:∃ nw,ws.length=nw:=⟨_,rfl⟩
   rw [hnw] at HRA h0 ⊢
   clear hE hN hc hx0 hwd w1 w2 hv0 hl hlf hst hs h hw HV HE hnw
   go_enter Tryz.func41,Tryz.ntmps41
   go_wp2_with fail
   refine HRA.out.mono ?_
   rintro en w1 ⟨rfl,hb1,hrd⟩
   have HB1:=Lib.hid hb1
   have HRD:=Lib.hid hrd
   clear hb1 hrd
   go_wp2
   go_ret
   exact ⟨rfl,HB1.out,fun h0=>by
    obtain ⟨c,f,e,l,hr⟩:=HRD.out h0
    exact ⟨c,f,e,l,D,hr.mono (Nat.le_succ _),HSS.out⟩⟩
  ·rw [decide_eq_false w2] at q2
   have hff:formedW ws=false:=by
    rcases hw with hw | hw | hw
    ·exact absurd (hwd.symm.trans hw) w1
    ·exact absurd (hwd.symm.trans hw) w2
    ·exact hw
   have HE:Hid (stepE M ws=5):=Lib.hid (by unfold stepE;rw [hwd,if_neg w1,if_neg w2,if_pos hff])
   have HFO:=Lib.hid (formed_any v ws W hv h0)
   rw [hff] at HFO
   obtain ⟨E,hE⟩:∃ E,stepE M ws=E:=⟨_,rfl⟩
   obtain ⟨N,hN⟩:∃ N,stepV M ws=N:=⟨_,rfl⟩
   rw [hE] at HE
   rw [hE,hN]
   obtain ⟨p,cp,rfl,_,_,hc⟩:=hv
   obtain ⟨g,o,rfl,k0⟩:=hc 0 x0 hx0
   rw [Nat.add_zero] at k0
   obtain ⟨nw,hnw⟩:∃ nw,ws.length=nw:=⟨_,rfl⟩
   rw [hnw] at HFO h0 ⊢
   clear hE hN hc hx0 hwd w1 w2 hv0 hl hlf hst hs h hw hff hnw
   go_enter Tryz.func41,Tryz.ntmps41
   go_wp2_with fail
   refine HFO.out.mono ?_
   rintro en w1 ⟨rfl,rfl⟩
   go_wp2
   go_ret
   exact ⟨by rw [HE.out];rfl,Below.refl _ _,fun h1=>by rw [HE.out] at h1;simp at h1⟩
end Go.Proofs.YthcpglnmhimepaaGreatDoor.Un
end
section
namespace Go.Proofs.YthcpglnmhimepaaGreatDoor.Un
open Go.RowKit Go.Maps
set_option maxRecDepth 100000 in
theorem stood_entry {W:World} {m n:Nat} {D:DataW Unit} {M:Mast} {ws:List ByteArray} (hm:MapRd W m n D) (hst:StoodOk D M) (hf:formedW ws=true) (hn:n < maxLen) :
 (∃ c:Int,c=hadI M ws∧(Instr.lookup 111 (.map (some m)) (aggK (wd ws 0) (keyB ws) (keyC ws)) false).run Tryz.prog W=.ok (.int .i64 c) W) ∧
 (hadW M ws=false→∃ (v0:Value) (st:Nat) (W3 W4:World),(Instr.mapEntry 111 (.map (some m)) (aggK (wd ws 0) (keyB ws) (keyC ws))).run Tryz.prog W=.ok (.tuple #[v0,.int .i64 (st:Int)]) W3 ∧
  (Instr.lookup 111 (.map (some m)) (aggK (wd ws 0) (keyB ws) (keyC ws)) false).run Tryz.prog W3=.ok (.int .i64 0) W3 ∧
  (Instr.entryStore 111 (.map (some m)) (.int .i64 (st:Int)) (.int .i64 1)).run Tryz.prog W3=.ok () W4 ∧
  MapRd W4 m (n+1) (D.put (klW ws) (.lit (.int .i64 1)))∧W.grownBy W4 (some m)):=by
 obtain ⟨s1,s2,s3⟩:=formed_sizes hf
 have hkey:=keyOf_mk (wd ws 0) (keyB ws) (keyC ws) (small_len s1) (small_len s2) (small_len s3)
 have hT:=Tryz.underlying111
 have hI:=Tryz.underlying3
 refine ⟨?_,fun hno=>?_⟩
 ·obtain ⟨c,hrun,hat,_⟩:=hm.lookup_int keyLaw hT hI (zeroInt _) hkey
  have:=hst ws hf
  rw [hat] at this
  injection this with this
  injection this with _ this
  exact ⟨c,this,hrun⟩
 ·have hz0:plainElem (H:=Unit) Tryz.prog 3 (.int .i64 0)=some (.lit (.int .i64 0),[]):=plainElem_int hI (by decide)
  have h1:plainElem (H:=Unit) Tryz.prog 3 (.int .i64 1)=some (.lit (.int .i64 1),[]):=plainElem_int hI (by decide)
  obtain ⟨v0,st,W3,dv,he,hg3,ho3,hdv,hs⟩:=own_entry hm keyLaw hT (z:=.int .i64 0) (fun u=>zeroInt u) hz0 hn hkey
  obtain ⟨W4,hs4,ho4,hg4⟩:=hs (.int .i64 1) _ _ h1
  obtain ⟨c,hrun,hat,_⟩:=ho3.lookup_int keyLaw hT hI (zeroInt _) hkey
  have hc:c=0:=by
   rw [atKey_put_same (hm.tidy keyLaw).isMap (klit_key _ _ _),hdv,hst ws hf] at hat
   injection hat with hat
   injection hat with _ hat
   rw [←hat];unfold hadI;rw [hno];rfl
  subst hc
  exact ⟨v0,st,W3,W4,he,hrun,hs4,ho4,hg3.trans hg4⟩
set_option maxRecDepth 100000 in
set_option maxHeartbeats 8000000 in
theorem read_formed (v:Value) (ws:List ByteArray) (W0 W:World) (R m n:Nat) (c f e l:Value) (D:DataW Unit) (M:Mast) (hv0:StrsV W0 v ws) (hb:Below W0.heap.size W0 W) (h:RdAt W W0.heap.size R m c f e l n D M) (hst:StoodOk D M)
 (hw1:wd ws 0≠tAccount) (hw2:wd ws 0≠Fl.tFlow) (hf:formedW ws=true) (hn:n < maxLen)
 (HKP:∀ (X:World) (k:Nat) (D':DataW Unit),StrsV X v ws→RdAt X W0.heap.size R m c f e l k D' M→W0.heap.size≤X.heap.size→Calls Tryz.prog 69 #[.pointer (some ⟨R,0,none⟩),v] X (ReadTold X W0.heap.size R m k D' (stepV M ws) (keepE M ws))) :
 Calls Tryz.prog 41 #[.pointer (some ⟨R,0,none⟩),v] W (LineTold W W0.heap.size R m (n+1) (stepV M ws) (stepE M ws)):=by
 have hv:=hv0.keep hb
 have h0:0 < ws.length:=by
  unfold formedW at hf
  rw [Bool.and_eq_true,decide_eq_true_eq] at hf
  exact hf.1
 obtain ⟨x0,hx0⟩:∃ x,ws[0]?=some x:=⟨_,List.getElem?_eq_getElem h0⟩
 have hwd:wd ws 0=x0:=wd_of hx0
 have q1:=qAccount x0
 have q2:=qFlow x0
 rw [decide_eq_false (by rw [←hwd];exact hw1)] at q1
 rw [decide_eq_false (by rw [←hwd];exact hw2)] at q2
 have HSF:Hid (stepE M ws=if hadW M ws=true then 7 else keepE M ws):=Lib.hid (step_formed hw1 hw2 hf)
 have HFO:=Lib.hid (formed_any v ws W hv h0)
 rw [hf] at HFO
 have HKO:=Lib.hid (keyOf_any v ws W hv hf)
 have HSE:=Lib.hid (fun (X:World) (hX:MapRd X m n D)=>stood_entry hX hst hf hn)
 have HSP:Hid (stepE M ws=0→StoodOk (D.put (klW ws) (.lit (.int .i64 1))) (stepV M ws)):=Lib.hid (fun h0=>hst.step (h.map.tidy keyLaw) hf h0)
 obtain ⟨kA,hkA⟩:∃ kA,wd ws 0=kA:=⟨_,rfl⟩
 obtain ⟨kB,hkB⟩:∃ kB,keyB ws=kB:=⟨_,rfl⟩
 obtain ⟨kC,hkC⟩:∃ kC,keyC ws=kC:=⟨_,rfl⟩
 rw [hkA,hkB,hkC] at HKO
 simp only [hkA,hkB,hkC] at HSE
 obtain ⟨E,hE⟩:∃ E,stepE M ws=E:=⟨_,rfl⟩
 obtain ⟨N,hN⟩:∃ N,stepV M ws=N:=⟨_,rfl⟩
 obtain ⟨K,hK⟩:∃ K,keepE M ws=K:=⟨_,rfl⟩
 rw [hE,hK] at HSF
 rw [hE,hN] at HSP ⊢
 simp only [hN,hK] at HKP
 have HKE:=Lib.hid HKP
 have HV0:=Lib.hid hv0
 have HRD:=Lib.hid h
 have HB:=Lib.hid hb
 obtain ⟨p,cp,rfl,_,_,hc⟩:=hv
 obtain ⟨g,o,rfl,k0⟩:=hc 0 x0 hx0
 rw [Nat.add_zero] at k0
 obtain ⟨nw,hnw⟩:∃ nw,ws.length=nw:=⟨_,rfl⟩
 rw [hnw] at HFO HKO HV0 h0 ⊢
 simp only [hnw] at HKE
 clear HKP hE hN hK hkA hkB hkC hc hx0 hwd hw1 hw2 hv0 hst h hf hnw hb hn
 go_enter Tryz.func41,Tryz.ntmps41
 go_wp2_with fail
 refine HFO.out.mono ?_
 rintro en w1 ⟨rfl,rfl⟩
 go_wp2_with fail
 refine HKO.out.mono ?_
 rintro en w2 ⟨rfl,hb2⟩
 have hb3:=hb2.alloc hb2.size (.cells #[.string kA,.string kB,.string kC] 152)
 have HR3:=Lib.hid (HRD.out.below hb3)
 have HX3:=Lib.hid (BoxE.new encK w2 (kA,kB,kC) 152)
 have HB3:=Lib.hid (HB.out.trans (hb3.mono HB.out.size))
 have HBW:=Lib.hid (hb3.mono HB.out.size)
 obtain ⟨W3,hW3⟩:∃ W3,w2.alloc (.cells #[.string kA,.string kB,.string kC] 152)=W3:=⟨_,rfl⟩
 have hW3':w2.alloc (.cells (encK.cs (kA,kB,kC)).toArray 152)=W3:=hW3
 rw [hW3] at HR3 HB3 HBW
 rw [hW3'] at HX3
 clear hb2 hb3 hW3'
 go_wp2_with fail
 clear hW3
 obtain ⟨W4,hW4⟩:∃ W4,W3.drew=W4:=⟨_,rfl⟩
 have HR4:Hid (RdAt W4 W0.heap.size R m c f e l n D M):=Lib.hid (by rw [←hW4];exact HR3.out.below ⟨rfl,rfl,rfl,Nat.le_refl _,fun _ _=>rfl⟩)
 have HX4:Hid (BoxE encK W4 w2.heap.size 152 (kA,kB,kC)):=Lib.hid (by rw [←hW4];exact HX3.out)
 have HB4:Hid (Below W0.heap.size W0 W4):=Lib.hid (by rw [←hW4];exact ⟨HB3.out.os,HB3.out.tape,HB3.out.output,HB3.out.size,HB3.out.block⟩)
 have HW4:Hid (Below W0.heap.size w1 W4):=Lib.hid (by rw [←hW4];exact ⟨HBW.out.os,HBW.out.tape,HBW.out.output,HBW.out.size,HBW.out.block⟩)
 obtain ⟨⟨cc,hcc,hlk⟩,hen⟩:=HSE.out W4 HR4.out.map
 have hten:=HR4.out.ten
 obtain ⟨y0,y1,y2⟩:=key3 HX4.out
 obtain ⟨hd,hhd⟩:∃ hd,hadW M ws=hd:=⟨_,rfl⟩
 unfold hadI at hcc
 rw [hhd] at hcc hen HSF
 have HHD:=Lib.hid hhd
 refine wp_region_still_lit (by kernel_rfl) (by kernel_rfl) ?_
 rw [show ({ heap:=W3.heap,tape:=W3.tape,drawn:=W3.drawn+1,os:=W3.os,output:=W3.output }:World)=W4 from hW4]
 clear hW4 hhd HR3 HX3 HB3 HBW
 cases hd with
 | true =>
   have HE7:Hid (E=7):=Lib.hid (by rw [HSF.out];rfl)
   rw [if_pos rfl] at hcc
   subst hcc
   clear hen
   repeat still_step
   refine wpStill_nil ?_
   go_wp2
   go_ret
   exact ⟨by rw [HE7.out];rfl,HW4.out,fun h1=>by rw [HE7.out] at h1;simp at h1⟩
 | false =>
   have HEK:Hid (E=K):=Lib.hid (by rw [HSF.out];rfl)
   rw [if_neg (by simp)] at hcc
   subst hcc
   clear hen
   repeat still_step
   refine wpStill_nil ?_
   clear hlk hten y0 y1 y2
   go_wp2_with fail
   have HR5:Hid (RdAt W4.drew W0.heap.size R m c f e l n D M):=Lib.hid (HR4.out.below ⟨rfl,rfl,rfl,Nat.le_refl _,fun _ _=>rfl⟩)
   have HX5:Hid (BoxE encK W4.drew w2.heap.size 152 (kA,kB,kC)):=Lib.hid HX4.out
   obtain ⟨⟨cc,hcc,hlk⟩,hen⟩:=HSE.out W4.drew HR5.out.map
   unfold hadI at hcc
   rw [HHD.out] at hcc hen
   rw [if_neg (by simp)] at hcc
   subst hcc
   obtain ⟨v0,st,W6,W7,he,hl6,hs7,ho7,hg7⟩:=hen rfl
   have hten:=HR5.out.ten
   obtain ⟨y0,y1,y2⟩:=key3 HX5.out
   have HR7:=Lib.hid (HR5.out.mapTurned hg7 ho7)
   have HB7:Hid (Below W0.heap.size W0 W7):=Lib.hid (by
    have hb5:Below W0.heap.size W0 W4.drew:=⟨HB4.out.os,HB4.out.tape,HB4.out.output,HB4.out.size,HB4.out.block⟩
    exact hb5.grown hg7 hb5.size (fun j hj=>by cases hj;exact HR4.out.geM))
   have HW7:Hid (Below W0.heap.size w1 W7):=Lib.hid (by
    have hb5:Below W0.heap.size w1 W4.drew:=⟨HW4.out.os,HW4.out.tape,HW4.out.output,HW4.out.size,HW4.out.block⟩
    exact hb5.grown hg7 HB4.out.size (fun j hj=>by cases hj;exact HR4.out.geM))
   clear ho7 hg7
   go_region
   clear he hl6 hs7 hlk hten y0 y1 y2
   go_wp2_with fail
   refine (HKE.out W7 _ _ (HV0.out.keep HB7.out) HR7.out HB7.out.size).mono ?_
   rintro en w9 ⟨rfl,hb9,hrd9⟩
   have HB9:=Lib.hid (HW7.out.trans hb9)
   have HR9:=Lib.hid hrd9
   clear hb9 hrd9
   go_wp2
   go_ret
   exact ⟨by rw [HEK.out];rfl,HB9.out,fun h1=>by
    obtain ⟨c9,f9,e9,l9,hr9⟩:=HR9.out (by rw [←HEK.out];exact h1)
    exact ⟨c9,f9,e9,l9,_,hr9,HSP.out h1⟩⟩
end Go.Proofs.YthcpglnmhimepaaGreatDoor.Un
end
section
namespace Go.Proofs.YthcpglnmhimepaaGreatDoor.Un
open Go.RowKit Go.Maps
structure ParseAt (W0 W:World) (R m i:Nat) (l:List (List ByteArray)) (c f e k:Value) (D:DataW Unit) (M:Mast):Prop where
 rd:RdAt W W0.heap.size R m c f e k i D M
 st:StoodOk D M
 sane:Sane M
 bel:Below W0.heap.size W0 W
 run:runM zeroM l=runM M (l.drop i)
theorem parseAt_start (W0:World) (l:List (List ByteArray)) :
 ParseAt W0 ((W0.alloc (.map #[] 0)).alloc (.cells (rdCells (.slice none 0 0) (.slice none 0 0) (.slice none 0 0) (.slice none 0 0) zeroM W0.heap.size) 113)) (W0.heap.size+1) W0.heap.size 0 l (.slice none 0 0) (.slice none 0 0) (.slice none 0 0) (.slice none 0 0) (.map []) zeroM where
 rd:=⟨by have:=heap_alloc_new (W0.alloc (.map #[] 0)) (.cells (rdCells (.slice none 0 0) (.slice none 0 0) (.slice none 0 0) (.slice none 0 0) zeroM W0.heap.size) 113);rw [World.size_alloc] at this;exact this,World.ownsRow_nil _ _ _ _,World.ownsRow_nil _ _ _ _,World.ownsRow_nil _ _ _ _,World.ownsRow_nil _ _ _ _,(World.ownsMap_made W0 _ _ _).alloc _,Nat.le_succ _,Nat.le_refl _⟩
 st:=StoodOk.zero
 sane:=Sane.zero
 bel:=((Below.refl _ W0).alloc (Nat.le_refl _) _).alloc (by simp) _
 run:=rfl
theorem words_pos (s:ByteArray):∀ ws∈wordsT s,0 < ws.length:=fun ws h=>List.length_pos_iff.2 (text_right s ws h).1
def ReadAll:Prop:=∀ (v:Value) (ws:List ByteArray) (W0 W:World) (R m n:Nat) (c f e l:Value) (D:DataW Unit) (M:Mast),StrsV W0 v ws→0 < ws.length→Laid W0→Fl.Laid W0→Below W0.heap.size W0 W→RdAt W W0.heap.size R m c f e l n D M→StoodOk D M→Sane M→n < maxLen →
    Calls Tryz.prog 41 #[.pointer (some ⟨R,0,none⟩),v] W (LineTold W W0.heap.size R m (n+1) (stepV M ws) (stepE M ws))
abbrev nil4:Value:=.slice none 0 0
abbrev zeroBox (w:World):World:=w.alloc (.cells #[.slice none 0 0,.slice none 0 0,.slice none 0 0,.slice none 0 0,.string emp,.string emp,.string emp,.string emp,.string emp] 30)
theorem box_start (w:World):BoxM (zeroBox w) w.heap.size 30 nil4 nil4 nil4 nil4 zeroM:=heap_alloc_new w _
theorem ones_nil:Ones nil4 nil4 nil4 nil4:=⟨rfl,rfl,rfl,rfl⟩
set_option maxRecDepth 100000 in
set_option maxHeartbeats 16000000 in
theorem parse_with (hread:ReadAll) (s:ByteArray) (w:World) (hs:s.size≤30000) (hl:Laid w) (hlf:Fl.Laid w) :
 Calls Tryz.prog 21 #[.string s] w (MastTold w (parseM s).1 (parseM s).2):=by
 have HB0:Hid (Below w.heap.size w (zeroBox w)):=Lib.hid ((Below.refl w.heap.size w).alloc (Nat.le_refl _) _)
 have HX0:=Lib.hid (box_start w)
 have HLN:=Lib.hid (lines_any s (zeroBox w) hs)
 have HLA:=Lib.hid (hl.below HB0.out (Nat.le_refl _))
 have HLF:=Lib.hid (hlf.below HB0.out (Nat.le_refl _))
 have HRE:=Lib.hid hread
 have HWP:=Lib.hid (words_pos s)
 have hpm:parseM s=if linE s.data.toList=0 then linesM (wordsT s) else (zeroM,linE s.data.toList):=rfl
 obtain ⟨L,hL⟩:∃ L,asB (linV s.data.toList)=L:=⟨_,rfl⟩
 have hWT:wordsT s=L.map (·.2):=by unfold wordsT;rw [hL]
 rw [hWT] at hpm HWP
 have hLL:L.length≤30001:=by
  rw [←hL,asB_length]
  unfold linV
  split
  ·simp
  ·split
   ·unfold linesL
    have h1:=numP_length (enumL 1 (linesGo [] s.data.toList))
    rw [enumL_length] at h1
    have h2:=linesGo_length [] s.data.toList
    rw [size_list] at h2
    omega
   ·simp
 obtain ⟨e0,he0⟩:∃ e0,linE s.data.toList=e0:=⟨_,rfl⟩
 rw [he0] at hpm HLN
 rw [hL] at HLN
 obtain ⟨PM,hPM⟩:∃ PM,(parseM s).1=PM:=⟨_,rfl⟩
 obtain ⟨PE,hPE⟩:∃ PE,(parseM s).2=PE:=⟨_,rfl⟩
 rw [hPM,hPE]
 have HPR:Hid ((PM,PE)=if e0=0 then linesM (L.map (·.2)) else (zeroM,e0)):=Lib.hid (by rw [←hpm,←hPM,←hPE])
 clear hread hl hlf hpm hL hWT he0 hPM hPE
 go_enter Tryz.func21,Tryz.ntmps21
 go_wp2_with fail
 refine HLN.out.mono ?_
 rintro en w2 ⟨v2,rfl,hlv,hb2⟩
 have HX2:=Lib.hid (HX0.out.kept hb2)
 have HB2:=Lib.hid (HB0.out.trans (hb2.mono HB0.out.size))
 have HLA2:=Lib.hid (HLA.out.below hb2 (Nat.le_refl _))
 have HLF2:=Lib.hid (HLF.out.below hb2 (Nat.le_refl _))
 clear hb2 HX0 HB0 HLA HLF
 by_cases h0:e0=0
 ·subst h0
  have HPR2:Hid ((PM,PE)=linesM (L.map (·.2))):=Lib.hid (by rw [HPR.out,if_pos rfl])
  clear HPR
  obtain ⟨p,cp,rfl,hm,hc⟩:=hlv
  have HC:=Lib.hid hc
  obtain ⟨n,hn⟩:∃ n,L.length=n:=⟨_,rfl⟩
  rw [hn] at hLL ⊢
  have HN:=Lib.hid hn
  have HST:=Lib.hid (parseAt_start w2 (L.map (·.2)))
  have hmm:=@run_makeMap Tryz.prog
  clear hc hn hm
  go_wp2
  clear hmm
  go_loopw [24] (fun s24 wr=>∃ i:Nat,i≤n∧s24=.int .i64 (i:Int)∧Hid (∃ c f e k D M,ParseAt w2 wr (w2.heap.size+1) w2.heap.size i (L.map (·.2)) c f e k D M)) (fun s24 _=>n - (intOf s24).toNat)
  case atStart=>exact ⟨0,Nat.zero_le _,rfl,Lib.hid ⟨_,_,_,_,_,_,HST.out⟩⟩
  case round =>
   obtain ⟨i,hi,rfl,HPA⟩:=hrel
   obtain ⟨c,f,e,k,D,M,hpa⟩:=HPA.out
   have HP:=Lib.hid hpa
   clear hpa HPA
   by_cases hlt:i < n
   ·obtain ⟨⟨ln,ws⟩,hx⟩:∃ x,L[i]?=some x:=⟨_,List.getElem?_eq_getElem (by rw [HN.out];exact hlt)⟩
    obtain ⟨b,o,u,rfl,d0,d1,hu⟩:=HC.out i _ hx
    dsimp only at d0 d1 hu
    have hwx:(L.map (·.2))[i]?=some ws:=by rw [List.getElem?_map,hx];rfl
    have HWX:=Lib.hid hwx
    have HW0:=Lib.hid (HWP.out ws (List.mem_of_getElem? hwx))
    have HU:=Lib.hid hu
    obtain ⟨pu,cu,rfl,_⟩:=hu
    have e0:=(HP.out.bel.cell (World.block_lt_of_cell? w2 _ d0)).trans d0
    have e1:=(HP.out.bel.cell (World.block_lt_of_cell? w2 _ d1)).trans d1
    obtain ⟨nw,hnw⟩:∃ nw,ws.length=nw:=⟨_,rfl⟩
    rw [hnw] at e1 HU
    have hbx:=(Below.refl wr.heap.size wr).alloc (Nat.le_refl _) (.cells #[.int .i64 ln,.slice pu nw cu] 81)
    have HR1:=Lib.hid (HP.out.rd.below hbx)
    have HB1:=Lib.hid (HP.out.bel.trans (hbx.mono HP.out.bel.size))
    have HRC:=Lib.hid (HRE.out (.slice pu nw cu) ws w2 _ _ _ _ _ _ _ _ _ _ HU.out HW0.out HLA2.out HLF2.out HB1.out HR1.out HP.out.st HP.out.sane (by unfold maxLen;omega))
    clear hx hwx d0 d1 hnw hbx
    obtain ⟨E,hE⟩:∃ E,stepE M ws=E:=⟨_,rfl⟩
    rw [hE] at HRC
    have HE:=Lib.hid hE
    clear hE
    go_wp2_with fail
    refine HRC.out.mono ?_
    rintro en w3 ⟨rfl,hb3,hrd3⟩
    have HB3:=Lib.hid (HB1.out.trans hb3)
    have HRD3:=Lib.hid hrd3
    clear hb3 hrd3 e0 e1
    by_cases hE0:E=0
    ·subst hE0
     have HNX:Hid (∃ c f e k D M,ParseAt w2 w3 (w2.heap.size+1) w2.heap.size (i+1) (L.map (·.2)) c f e k D M):=Lib.hid (by
      obtain ⟨c',f',e',k',D',hr,hst⟩:=HRD3.out rfl
      refine ⟨c',f',e',k',D',_,hr,hst,HP.out.sane.step HE.out,HB3.out,?_⟩
      have hdr:(L.map (·.2)).drop i=ws::(L.map (·.2)).drop (i+1):=by
       have hlt':=(List.getElem?_eq_some_iff.1 HWX.out).1
       rw [List.drop_eq_getElem_cons hlt',(List.getElem?_eq_some_iff.1 HWX.out).2]
      rw [HP.out.run,hdr,runM_cons _ _ _ HE.out])
     go_wp2
     go_roundw
     case rel=>exact ⟨i+1,by omega,by go_num,HNX⟩
     case measure=>simp [intOf];omega
    ·have HPF:Hid (PM=zeroM∧PE=E):=Lib.hid (by
      have hdr:(L.map (·.2)).drop i=ws::(L.map (·.2)).drop (i+1):=by
       have hlt':=(List.getElem?_eq_some_iff.1 HWX.out).1
       rw [List.drop_eq_getElem_cons hlt',(List.getElem?_eq_some_iff.1 HWX.out).2]
      have h1:=HPR2.out
      unfold linesM at h1
      rw [HP.out.run,hdr,runM_stop _ _ _ (by rw [HE.out];exact hE0),endM_stop _ (by rw [HE.out];exact hE0),HE.out] at h1
      exact Prod.mk.inj h1)
     have HX3:=Lib.hid (HX2.out.keep HB3.out HX2.out.lt)
     have HBF:=Lib.hid (HB2.out.trans (HB3.out.mono HB2.out.size))
     go_wp2_with (refine wpList_store_mast rfl 30 (.tmp 2) (.tmp 33) rfl w.heap.size nil4 nil4 nil4 nil4 nil4 nil4 nil4 nil4 zeroM zeroM 30 rfl rfl HX3.out ones_nil (by kernel_rfl) ?_;intro w4 hb4 hg4)
     have HBG:=Lib.hid (HBF.out.grown hg4 HBF.out.size (fun j hj=>by cases hj;exact Nat.le_refl _))
     obtain ⟨c0,c1,c2,c3,c4,c5,c6,c7,c8⟩:=hb4.nine
     have HZ:=Lib.hid (MastIn.zero w4)
     clear hb4 hg4
     refine bodyPost_ret (v:=.tuple #[aggM nil4 nil4 nil4 nil4 zeroM,.int .i64 E]) (by simp [results,Tryz.results21,go_sem,c0,c1,c2,c3,c4,c5,c6,c7,c8]) rfl ⟨_,by rw [HPF.out.2],?_,HBG.out⟩
     rw [HPF.out.1]
     exact ⟨_,_,_,_,rfl,HZ.out⟩
   ·have HRN:Hid (runM zeroM (L.map (·.2))=(M,0)):=Lib.hid (by
     rw [HP.out.run,List.drop_eq_nil_of_le (by rw [List.length_map,HN.out];omega)];rfl)
    have HPF:Hid ((PM,PE)=endM (M,0)):=Lib.hid (by rw [HPR2.out];unfold linesM;rw [HRN.out])
    have HMI:=Lib.hid HP.out.rd.mast
    have HCK:=Lib.hid (check_any c f e k M wr HMI.out (Fl.rise_codes HP.out.sane.fl) (by have:=HP.out.sane.lf;omega))
    obtain ⟨c0,c1,c2,c3,c4,c5,c6,c7,c8⟩:=HP.out.rd.nine
    obtain ⟨A,hA⟩:∃ A,allE M=A:=⟨_,rfl⟩
    rw [hA] at HCK
    have HA:=Lib.hid hA
    clear hA
    go_wp2_with fail
    clear c0 c1 c2 c3 c4 c5 c6 c7 c8
    refine HCK.out.mono ?_
    rintro en w3 ⟨rfl,hb3⟩
    have HR3:=Lib.hid (HP.out.rd.below hb3)
    have HB3:=Lib.hid (HP.out.bel.trans (hb3.mono HP.out.bel.size))
    have HX3:=Lib.hid (HX2.out.keep HB3.out HX2.out.lt)
    have HBF:=Lib.hid (HB2.out.trans (HB3.out.mono HB2.out.size))
    clear hb3
    by_cases hA0:A=0
    ·subst hA0
     have HPG:Hid (PM=M∧PE=0):=Lib.hid (by
      have h1:=HPF.out
      rw [endM_ok _ HA.out] at h1
      exact Prod.mk.inj h1)
     have HM3:=Lib.hid HR3.out.mast
     obtain ⟨c0,c1,c2,c3,c4,c5,c6,c7,c8⟩:=HR3.out.nine
     go_wp2_with (refine wpList_store_mast rfl 30 (.tmp 2) (.tmp 44) rfl w.heap.size nil4 nil4 nil4 nil4 c f e k zeroM M 30 rfl rfl HX3.out (ones_of HM3.out) (by kernel_rfl) ?_;intro w4 hb4 hg4)
     clear c0 c1 c2 c3 c4 c5 c6 c7 c8
     have HBG:=Lib.hid (HBF.out.grown hg4 HBF.out.size (fun j hj=>by cases hj;exact Nat.le_refl _))
     have HM4:Hid (MastIn w4 c f e k M):=Lib.hid (by
      have hne:∀ {B':Nat} {t':TypeId} {s' q':Nat} {v':Value} {xs':List Value},w3.ownsRow w2.heap.size t' s' v' q' xs'→v'.ownBlock=none∨v'.ownBlock≠some w.heap.size:=fun hr=>by
       rcases hr.2 with ⟨rfl,_⟩ | ⟨g',_,_,rfl,hge,_⟩
       ·exact .inl rfl
       ·refine .inr (fun e'=>?_)
        have:g'=w.heap.size:=by simpa [Value.ownBlock] using e'
        have:=HX2.out.lt
        omega
      exact ⟨chart_of_own (HR3.out.chart.kept hg4 (hne (B':=0) HR3.out.chart)),els_of_own (HR3.out.flows.kept hg4 (hne (B':=0) HR3.out.flows)),els_of_own (HR3.out.ents.kept hg4 (hne (B':=0) HR3.out.ents)),els_of_own (HR3.out.lines.kept hg4 (hne (B':=0) HR3.out.lines))⟩)
     obtain ⟨c0,c1,c2,c3,c4,c5,c6,c7,c8⟩:=hb4.nine
     clear hb4 hg4
     refine bodyPost_ret (v:=.tuple #[aggM c f e k M,.int .i64 0]) (by simp [results,Tryz.results21,go_sem,c0,c1,c2,c3,c4,c5,c6,c7,c8]) rfl ⟨_,by rw [HPG.out.2],?_,HBG.out⟩
     rw [HPG.out.1]
     exact ⟨_,_,_,_,rfl,HM4.out⟩
    ·have HPG:Hid (PM=zeroM∧PE=A):=Lib.hid (by
      have h1:=HPF.out
      rw [endM_no _ (by rw [HA.out];exact hA0),HA.out] at h1
      exact Prod.mk.inj h1)
     go_wp2_with (refine wpList_store_mast rfl 30 (.tmp 2) (.tmp 41) rfl w.heap.size nil4 nil4 nil4 nil4 nil4 nil4 nil4 nil4 zeroM zeroM 30 rfl rfl HX3.out ones_nil (by kernel_rfl) ?_;intro w4 hb4 hg4)
     have HBG:=Lib.hid (HBF.out.grown hg4 HBF.out.size (fun j hj=>by cases hj;exact Nat.le_refl _))
     obtain ⟨c0,c1,c2,c3,c4,c5,c6,c7,c8⟩:=hb4.nine
     have HZ:=Lib.hid (MastIn.zero w4)
     clear hb4 hg4
     refine bodyPost_ret (v:=.tuple #[aggM nil4 nil4 nil4 nil4 zeroM,.int .i64 A]) (by simp [results,Tryz.results21,go_sem,c0,c1,c2,c3,c4,c5,c6,c7,c8]) rfl ⟨_,by rw [HPG.out.2],?_,HBG.out⟩
     rw [HPG.out.1]
     exact ⟨_,_,_,_,rfl,HZ.out⟩
 ·have HPF:Hid (PM=zeroM∧PE=e0):=Lib.hid (by
   have h1:=HPR.out
   rw [if_neg h0] at h1
   exact Prod.mk.inj h1)
  obtain ⟨p,cp,rfl,_⟩:=hlv
  go_wp2_with (refine wpList_store_mast rfl 30 (.tmp 2) (.tmp 18) rfl w.heap.size nil4 nil4 nil4 nil4 nil4 nil4 nil4 nil4 zeroM zeroM 30 rfl rfl HX2.out ones_nil (by kernel_rfl) ?_;intro w4 hb4 hg4)
  have HBG:=Lib.hid (HB2.out.grown hg4 HB2.out.size (fun j hj=>by cases hj;exact Nat.le_refl _))
  obtain ⟨c0,c1,c2,c3,c4,c5,c6,c7,c8⟩:=hb4.nine
  have HZ:=Lib.hid (MastIn.zero w4)
  clear hb4 hg4
  refine bodyPost_ret (v:=.tuple #[aggM nil4 nil4 nil4 nil4 zeroM,.int .i64 e0]) (by simp [results,Tryz.results21,go_sem,c0,c1,c2,c3,c4,c5,c6,c7,c8]) rfl ⟨_,by rw [HPF.out.2],?_,HBG.out⟩
  rw [HPF.out.1]
  exact ⟨_,_,_,_,rfl,HZ.out⟩
end Go.Proofs.YthcpglnmhimepaaGreatDoor.Un
end
section
namespace Go.Proofs.YthcpglnmhimepaaGreatDoor.Un
open Go.RowKit
def OffV (P:Nat→Prop) (v:Value):Prop:=∀ (ad:Addr) (n c:Nat),v=.slice (some ad) n c→0 < n→P ad.block
def Off1 (w:World) (v v':Value):Prop:=∀ P:Nat→Prop,(∀ b,w.heap.size≤b→P b)→OffV P v→OffV P v'
theorem Off1.refl (w:World) (v:Value):Off1 w v v:=fun _ _ h=>h
theorem Off1.mono {w0 w:World} {v v':Value} (h:Off1 w v v') (hs:w0.heap.size≤w.heap.size):Off1 w0 v v':=fun P hp hv=>h P (fun b hb=>hp b (Nat.le_trans hs hb)) hv
theorem Off1.own {w W:World} {B n s:Nat} {t:TypeId} {v v':Value} {xs:List Value} (h:W.ownsRow B t s v' n xs) (hB:w.heap.size≤B):Off1 w v v':=fun P hp _ ad m c e _=>by
 rcases h.2 with ⟨e1,_⟩ | ⟨g,cap,cur,e1,hb,_⟩
 ·rw [e1] at e;cases e
 ·rw [e1] at e;cases e;exact hp _ (Nat.le_trans hB hb)
theorem Off1.told {α:Type} {E:Enc α} {w w1 w3:World} {v v':Value} {L:List α} {n:Int} (h1:n≠0→v'=v) (h2:n=0→∃ t,w3.ownsRow w1.heap.size t E.k v' L.length (flat E L)) (hs:w.heap.size≤w1.heap.size):Off1 w v v':=by
 by_cases h:n=0
 ·obtain ⟨t,h3⟩:=h2 h
  exact Off1.own h3 hs
 ·rw [h1 h];exact Off1.refl _ _
def Off4 (w:World) (c f e l c' f' e' l':Value):Prop:=Off1 w c c'∧Off1 w f f'∧Off1 w e e'∧Off1 w l l'
theorem Off4.refl (w:World) (c f e l:Value):Off4 w c f e l c f e l:=⟨Off1.refl _ _,Off1.refl _ _,Off1.refl _ _,Off1.refl _ _⟩
theorem els_off {α:Type} {E:Enc α} {P:Nat→Prop} {w w':World} {v:Value} {L:List α} (h:ElsV E w v L) (ho:OffV P v) (hk:∀ b,P b→b < w.heap.size→w'.heap[b]?=w.heap[b]?):ElsV E w' v L:=by
 obtain ⟨p,c,e,h1,h2,h3,hc⟩:=h
 refine ⟨p,c,e,h1,h2,h3,fun i x hx=>?_⟩
 obtain ⟨b,o,e',hat⟩:=hc i x hx
 have hb:=ho ⟨b,o,none⟩ _ _ (by rw [e,e']) (by have:=(List.getElem?_eq_some_iff.1 hx).1;omega)
 exact ⟨b,o,e',fun j u hj=>(World.cell?_of_block (hk b hb hat.lt)).trans (hat j u hj)⟩
theorem off_of_els {α:Type} {E:Enc α} {P:Nat→Prop} {w:World} {v:Value} {L:List α} (h:ElsV E w v L) (hp:∀ b,b < w.heap.size→P b):OffV P v:=fun ad n c e hn=>by
 obtain ⟨p,c',e',_,_,_,hc⟩:=h
 rw [e'] at e
 cases e
 obtain ⟨x,hx⟩:∃ x,L[0]?=some x:=⟨_,List.getElem?_eq_getElem hn⟩
 obtain ⟨b,o,e1,hat⟩:=hc 0 x hx
 cases e1
 exact hp b hat.lt
theorem off_of_mast {P:Nat→Prop} {w:World} {c f e l:Value} {M:Mast} (h:MastIn w c f e l M) (hp:∀ b,b < w.heap.size→P b):OffV P c∧OffV P f∧OffV P e∧OffV P l :=
 ⟨off_of_els (chart_els.1 h.chart) hp,off_of_els h.flows hp,off_of_els h.ents hp,off_of_els h.lines hp⟩
theorem mast_off {P:Nat→Prop} {w w':World} {c f e l:Value} {M:Mast} (h:MastIn w c f e l M) (h0:OffV P c) (h1:OffV P f) (h2:OffV P e) (h3:OffV P l) (hk:∀ b,P b→b < w.heap.size→w'.heap[b]?=w.heap[b]?):MastIn w' c f e l M :=
 ⟨chart_els.2 (els_off (chart_els.1 h.chart) h0 hk),els_off h.flows h1 hk,els_off h.ents h2 hk,els_off h.lines h3 hk⟩
def OneTold (w:World) (c0 f0 e0 l0:Value) (M:Mast) (ws:List ByteArray) (en:Ending) (w':World):Prop :=
 ∃ c f e l M',en=.returned (.tuple #[aggM c f e l M',.int .i64 (stepE M ws)])∧(stepE M ws=0→M'=stepV M ws∧MastIn w' c f e l M')∧Ones c f e l∧Off4 w c0 f0 e0 l0 c f e l∧Below w.heap.size w w'
structure TwoAt (w W:World) (c f e l:Value) (M:Mast):Prop where
 box:BoxM W w.heap.size 36 c f e l M
 res:BoxM W (w.heap.size+1) 36 nil4 nil4 nil4 nil4 zeroM
 bel:Below w.heap.size w W
 mast:MastIn W c f e l M
abbrev two0 (w:World) (c f e l:Value) (M:Mast):World:=(w.alloc (.cells (cellsM c f e l M) 36)).alloc (.cells #[.slice none 0 0,.slice none 0 0,.slice none 0 0,.slice none 0 0,.string ⟨#[]⟩,.string ⟨#[]⟩,.string ⟨#[]⟩,.string ⟨#[]⟩,.string ⟨#[]⟩] 36)
theorem two_start (w:World) {c f e l:Value} {M:Mast} (h:MastIn w c f e l M):TwoAt w (two0 w c f e l M) c f e l M:=by
 have hb:=(Below.refl w.heap.size w).alloc (Nat.le_refl _) (.cells (cellsM c f e l M) 36)
 have hb2:=hb.alloc hb.size (.cells (cellsM nil4 nil4 nil4 nil4 zeroM) 36)
 refine ⟨(BoxM.new w c f e l M _).kept ((Below.refl _ _).alloc (Nat.le_refl _) _),?_,hb2,h.keep hb2⟩
 have:=BoxM.new (w.alloc (.cells (cellsM c f e l M) 36)) nil4 nil4 nil4 nil4 zeroM 36
 rwa [World.size_alloc] at this
theorem TwoAt.below {w W W':World} {c f e l:Value} {M:Mast} (h:TwoAt w W c f e l M) (hb:Below W.heap.size W W'):TwoAt w W' c f e l M :=
 ⟨h.box.kept hb,h.res.kept hb,h.bel.trans (hb.mono h.bel.size),h.mast.keep hb⟩
theorem boxM_free {w:World} {b:Nat} {t:TypeId} {c f e l:Value} {M:Mast} (h:BoxM w b t c f e l M) (o:Nat):w.frozen? ⟨b,o,none⟩=false:=by
 unfold BoxM at h
 simp [World.frozen?,h]
theorem set_below {w W:World} (hb:Below w.heap.size w W) (o:Nat) (u:Value):Below w.heap.size w (W.setCell ⟨w.heap.size,o,none⟩ u):=hb.setCell (p:=⟨w.heap.size,o,none⟩) (Nat.le_refl _) u
theorem box_set {W:World} {g i:Nat} {t:TypeId} {c f e l c' f' e' l':Value} {M N:Mast} {u:Value} (h:BoxM W g t c f e l M) (hs:(cellsM c f e l M).setIfInBounds i u=cellsM c' f' e' l' N):BoxM (W.setCell ⟨g,i,none⟩ u) g t c' f' e' l' N:=by
 unfold BoxM at h ⊢
 rw [Joins.block_setCell h,hs]
theorem formed_no {ws:List ByteArray} (h:formedW ws=false) {M:Mast} (h1:wd ws 0≠tAccount) (h2:wd ws 0≠Fl.tFlow):stepE M ws=5:=by
 unfold stepE
 rw [if_neg h1,if_neg h2,if_pos h]
theorem told_shape {α:Type} {E:Enc α} {w w':World} {p:Option Addr} {m c:Nat} {v':Value} {L:List α} {n:Int} (h1:n≠0→v'=.slice p m c) (h2:n=0→∃ t,w'.ownsRow w.heap.size t E.k v' L.length (flat E L)):∃ p' m' c',v'=.slice p' m' c':=by
 by_cases h:n=0
 ·obtain ⟨t,h3⟩:=h2 h
  rcases h3.2 with ⟨rfl,_⟩ | ⟨g,cap,cur,rfl,_⟩
  ·exact ⟨_,_,_,rfl⟩
  ·exact ⟨_,_,_,rfl⟩
 ·exact ⟨_,_,_,h1 h⟩
set_option maxRecDepth 100000 in
set_option maxHeartbeats 4000000 in
theorem small_names (v c f e l:Value) (ws:List ByteArray) (M:Mast) (w:World) (hm:MastIn w c f e l M) (hv:StrsV w v ws) (hn:namesW ws=false) (hE:stepE M ws=5) :
 Calls Tryz.prog 78 #[aggM c f e l M,v] w (OneTold w c f e l M ws):=by
 have HS:=Lib.hid (two_start w hm)
 have HNA:=Lib.hid (rnames_any v ws (two0 w c f e l M) (hv.keep HS.out.bel))
 rw [hn] at HNA
 have HO:=Lib.hid (ones_of hm)
 have HE:=Lib.hid hE
 obtain ⟨p,cp,rfl,_⟩:=hv
 clear hm hn hE
 obtain ⟨k0,k1,k2,k3,k4,k5,k6,k7,k8⟩:=HS.out.box.nine
 go_enter Tryz.func78,Tryz.ntmps78
 go_wp2_with fail
 refine HNA.out.mono ?_
 rintro en w1 ⟨rfl,rfl⟩
 go_wp2_with (refine wpList_store_mast rfl 36 (.tmp 4) (.tmp 10) rfl (w.heap.size+1) nil4 nil4 nil4 nil4 c f e l zeroM M 36 rfl rfl HS.out.res HO.out (by kernel_rfl) ?_;intro w4 hb4 hg4)
 clear k0 k1 k2 k3 k4 k5 k6 k7 k8
 have HBG:=Lib.hid (HS.out.bel.grown hg4 HS.out.bel.size (fun j hj=>by cases hj;exact Nat.le_succ _))
 obtain ⟨c0,c1,c2,c3,c4,c5,c6,c7,c8⟩:=hb4.nine
 clear hb4 hg4
 exact bodyPost_ret (v:=.tuple #[aggM c f e l M,.int .i64 5]) (by simp [results,Tryz.results78,go_sem,c0,c1,c2,c3,c4,c5,c6,c7,c8]) rfl ⟨c,f,e,l,M,by rw [HE.out],(fun h=>by rw [HE.out] at h;cases h),HO.out,Off4.refl _ _ _ _ _,HBG.out⟩
set_option maxRecDepth 100000 in
set_option maxHeartbeats 64000000 in
theorem small_no (v c f e l:Value) (ws:List ByteArray) (M:Mast) (w:World) (hm:MastIn w c f e l M) (hv:StrsV w v ws) (hn:namesW ws=true) (hE:stepE M ws=5) (x0:ByteArray) (hx:ws[0]?=some x0) (l3:x0=tEntity→ws.length≠3) (l4:x0=tMap→ws.length≠4) (l2:x0=tGroup∨x0=tReserve∨x0=tDiffer∨x0=tMinor∨x0=tStake→ws.length≠2) :
 Calls Tryz.prog 78 #[aggM c f e l M,v] w (OneTold w c f e l M ws):=by
 obtain ⟨k,b0,b1,b2,b3,b4,b5,b6,hkl,hb,g0,g1,g2,g3,g4,g5,g6⟩:∃ (k:Int) (b0 b1 b2 b3 b4 b5 b6:Bool),(((ws.length:Nat):Int)==k)=false∧(k=3∧b0=true∧b1=false∧b2=false∧b3=false∧b4=false∧b5=false∧b6=false∨k=4∧b0=false∧b1=true∧b2=false∧b3=false∧b4=false∧b5=false∧b6=false∨k=2∧b0=false∧b1=false∧b2=true∧b3=false∧b4=false∧b5=false∧b6=false∨k=2∧b0=false∧b1=false∧b2=false∧b3=true∧b4=false∧b5=false∧b6=false∨k=2∧b0=false∧b1=false∧b2=false∧b3=false∧b4=true∧b5=false∧b6=false∨k=2∧b0=false∧b1=false∧b2=false∧b3=false∧b4=false∧b5=true∧b6=false∨k=2∧b0=false∧b1=false∧b2=false∧b3=false∧b4=false∧b5=false∧b6=true∨k=0∧b0=false∧b1=false∧b2=false∧b3=false∧b4=false∧b5=false∧b6=false)∧(x0.toList==[101,110,116,105,116,121])=b0∧(x0.toList==[109,97,112])=b1∧(x0.toList==[103,114,111,117,112])=b2∧(x0.toList==[114,101,115,101,114,118,101])=b3∧(x0.toList==[100,105,102,102,101,114])=b4∧(x0.toList==[109,105,110,111,114])=b5∧(x0.toList==[115,116,97,107,101])=b6:=by
  have h1:0 < ws.length:=(List.getElem?_eq_some_iff.1 hx).1
  rw [qEntity,qMap,qGroup,qReserve,qDiffer,qMinor,qStake]
  by_cases h10:x0=tEntity
  ·have:=l3 h10
   subst h10
   exact ⟨3,_,_,_,_,_,_,_,by simp only [beq_eq_false_iff_ne,ne_eq];omega,by decide,rfl,rfl,rfl,rfl,rfl,rfl,rfl⟩
  by_cases h11:x0=tMap
  ·have:=l4 h11
   subst h11
   exact ⟨4,_,_,_,_,_,_,_,by simp only [beq_eq_false_iff_ne,ne_eq];omega,by decide,rfl,rfl,rfl,rfl,rfl,rfl,rfl⟩
  by_cases h12:x0=tGroup
  ·have:=l2 (by simp [h12])
   subst h12
   exact ⟨2,_,_,_,_,_,_,_,by simp only [beq_eq_false_iff_ne,ne_eq];omega,by decide,rfl,rfl,rfl,rfl,rfl,rfl,rfl⟩
  by_cases h13:x0=tReserve
  ·have:=l2 (by simp [h13])
   subst h13
   exact ⟨2,_,_,_,_,_,_,_,by simp only [beq_eq_false_iff_ne,ne_eq];omega,by decide,rfl,rfl,rfl,rfl,rfl,rfl,rfl⟩
  by_cases h14:x0=tDiffer
  ·have:=l2 (by simp [h14])
   subst h14
   exact ⟨2,_,_,_,_,_,_,_,by simp only [beq_eq_false_iff_ne,ne_eq];omega,by decide,rfl,rfl,rfl,rfl,rfl,rfl,rfl⟩
  by_cases h15:x0=tMinor
  ·have:=l2 (by simp [h15])
   subst h15
   exact ⟨2,_,_,_,_,_,_,_,by simp only [beq_eq_false_iff_ne,ne_eq];omega,by decide,rfl,rfl,rfl,rfl,rfl,rfl,rfl⟩
  by_cases h16:x0=tStake
  ·have:=l2 (by simp [h16])
   subst h16
   exact ⟨2,_,_,_,_,_,_,_,by simp only [beq_eq_false_iff_ne,ne_eq];omega,by decide,rfl,rfl,rfl,rfl,rfl,rfl,rfl⟩
  exact ⟨0,_,_,_,_,_,_,_,by simp only [beq_eq_false_iff_ne,ne_eq];omega,by decide,decide_eq_false h10,decide_eq_false h11,decide_eq_false h12,decide_eq_false h13,decide_eq_false h14,decide_eq_false h15,decide_eq_false h16⟩
 have HS:=Lib.hid (two_start w hm)
 have HV:=Lib.hid (hv.keep HS.out.bel)
 have HNA:=Lib.hid (rnames_any v ws (two0 w c f e l M) HV.out)
 rw [hn] at HNA
 have HO:=Lib.hid (ones_of hm)
 have HE:=Lib.hid hE
 obtain ⟨p,cp,rfl,hcap,hml,hc⟩:=HV.out
 obtain ⟨g,o,rfl,y0⟩:=hc 0 x0 hx
 rw [Nat.add_zero] at y0
 obtain ⟨n,hnn⟩:∃ n,ws.length=n:=⟨_,rfl⟩
 have hn0:0 < n:=by rw [←hnn];exact (List.getElem?_eq_some_iff.1 hx).1
 rw [hnn] at HNA HV hcap hkl ⊢
 clear hm hn hE hv HV hc hx hnn l2 l3 l4
 rcases hb with ⟨rfl,rfl,rfl,rfl,rfl,rfl,rfl,rfl⟩ | ⟨rfl,rfl,rfl,rfl,rfl,rfl,rfl,rfl⟩ | ⟨rfl,rfl,rfl,rfl,rfl,rfl,rfl,rfl⟩ | ⟨rfl,rfl,rfl,rfl,rfl,rfl,rfl,rfl⟩ | ⟨rfl,rfl,rfl,rfl,rfl,rfl,rfl,rfl⟩ | ⟨rfl,rfl,rfl,rfl,rfl,rfl,rfl,rfl⟩ | ⟨rfl,rfl,rfl,rfl,rfl,rfl,rfl,rfl⟩ | ⟨rfl,rfl,rfl,rfl,rfl,rfl,rfl,rfl⟩
 all_goals
  obtain ⟨k0,k1,k2,k3,k4,k5,k6,k7,k8⟩:=HS.out.box.nine
  go_enter Tryz.func78,Tryz.ntmps78
  go_wp2_with fail
  refine HNA.out.mono ?_
  rintro en w1 ⟨rfl,rfl⟩
  go_wp2_with (refine wpList_store_mast rfl 36 (.tmp 4) (.tmp 162) rfl (w.heap.size+1) nil4 nil4 nil4 nil4 c f e l zeroM M 36 rfl rfl HS.out.res HO.out (by kernel_rfl) ?_;intro w4 hb4 hg4)
  clear k0 k1 k2 k3 k4 k5 k6 k7 k8
  have HBG:=Lib.hid (HS.out.bel.grown hg4 HS.out.bel.size (fun j hj=>by cases hj;exact Nat.le_succ _))
  obtain ⟨c0,c1,c2,c3,c4,c5,c6,c7,c8⟩:=hb4.nine
  clear hb4 hg4
  exact bodyPost_ret (v:=.tuple #[aggM c f e l M,.int .i64 5]) (by simp [results,Tryz.results78,go_sem,c0,c1,c2,c3,c4,c5,c6,c7,c8]) rfl ⟨c,f,e,l,M,by rw [HE.out],(fun h=>by rw [HE.out] at h;cases h),HO.out,Off4.refl _ _ _ _ _,HBG.out⟩
set_option maxRecDepth 100000 in
set_option maxHeartbeats 64000000 in
theorem small_one (T z:ByteArray) (i:Nat) (N:ByteArray→Mast) (b2 b3 b4 b5 b6:Bool) (v c f e l:Value) (a:ByteArray) (M:Mast) (w:World) (hm:MastIn w c f e l M) (hv:StrsV w v [T,a]) (hn:namesW [T,a]=true)
 (hw:(i=4∧T=tGroup∧z=M.cur∧N=(fun X=>{ M with cur:=X })∧b2=true∧b3=false∧b4=false∧b5=false∧b6=false)∨(i=5∧T=tReserve∧z=M.res∧N=(fun X=>{ M with res:=X })∧b2=false∧b3=true∧b4=false∧b5=false∧b6=false)∨(i=6∧T=tDiffer∧z=M.dif∧N=(fun X=>{ M with dif:=X })∧b2=false∧b3=false∧b4=true∧b5=false∧b6=false)∨(i=7∧T=tMinor∧z=M.min∧N=(fun X=>{ M with min:=X })∧b2=false∧b3=false∧b4=false∧b5=true∧b6=false)∨(i=8∧T=tStake∧z=M.stk∧N=(fun X=>{ M with stk:=X })∧b2=false∧b3=false∧b4=false∧b5=false∧b6=true)) :
 Calls Tryz.prog 78 #[aggM c f e l M,v] w fun en w'=>∃ M',en=.returned (.tuple #[aggM c f e l M',.int .i64 (oneE z)])∧(oneE z=0→M'=N a∧MastIn w' c f e l M')∧Ones c f e l∧Below w.heap.size w w':=by
 have HS:=Lib.hid (two_start w hm)
 have HNA:=Lib.hid (rnames_any v _ (two0 w c f e l M) (hv.keep HS.out.bel))
 rw [hn] at HNA
 have HM:=Lib.hid hm
 have HO:=Lib.hid (ones_of hm)
 obtain ⟨p,cp,rfl,hcap,hml,hc⟩:=hv
 obtain ⟨g,o,rfl,x0⟩:=hc 0 T rfl
 obtain ⟨g',o',e1,x1⟩:=hc 1 a rfl
 cases e1
 rw [show ([T,a]:List ByteArray).length=2 from rfl] at HNA hcap hml ⊢
 rw [Nat.add_zero] at x0
 have hgw:g < w.heap.size:=World.block_lt_of_cell? w _ x0
 have y0:=cell_later HS.out.bel x0
 have y1:=cell_later HS.out.bel x1
 have HSI:=Lib.hid (single_any z a)
 obtain ⟨X,hX⟩:∃ X,(if z=emp then a else z)=X:=⟨_,rfl⟩
 obtain ⟨n,hnn⟩:∃ n,oneE z=n:=⟨_,rfl⟩
 have HX:Hid (n=0→X=a):=Lib.hid (fun h0=>by
  rw [←hX,if_pos]
  rw [←hnn] at h0
  unfold oneE at h0
  split at h0
  ·assumption
  ·cases h0)
 simp only [hX,hnn] at HSI
 rw [hnn]
 obtain ⟨Y,hY⟩:∃ Y,N X=Y:=⟨_,rfl⟩
 have HY:Hid (n=0→Y=N a):=Lib.hid fun h0=>by rw [←hY,HX.out h0]
 obtain ⟨g0,g1,g2,g3,g4,g5,g6,hse,hla⟩:(T.toList==[101,110,116,105,116,121])=false∧(T.toList==[109,97,112])=false∧(T.toList==[103,114,111,117,112])=b2∧(T.toList==[114,101,115,101,114,118,101])=b3∧(T.toList==[100,105,102,102,101,114])=b4∧(T.toList==[109,105,110,111,114])=b5∧(T.toList==[115,116,97,107,101])=b6∧(cellsM c f e l M).setIfInBounds i (.string X)=cellsM c f e l Y∧Y.chart=M.chart∧Y.flows=M.flows∧Y.ents=M.ents∧Y.lines=M.lines:=by
  subst hY
  rw [qEntity,qMap,qGroup,qReserve,qDiffer,qMinor,qStake]
  clear HSI HX HY hnn hX hn HNA x0
  rcases hw with ⟨rfl,rfl,rfl,rfl,rfl,rfl,rfl,rfl,rfl⟩ | ⟨rfl,rfl,rfl,rfl,rfl,rfl,rfl,rfl,rfl⟩ | ⟨rfl,rfl,rfl,rfl,rfl,rfl,rfl,rfl,rfl⟩ | ⟨rfl,rfl,rfl,rfl,rfl,rfl,rfl,rfl,rfl⟩ | ⟨rfl,rfl,rfl,rfl,rfl,rfl,rfl,rfl,rfl⟩
  all_goals exact ⟨by decide,by decide,by decide,by decide,by decide,by decide,by decide,rfl,rfl,rfl,rfl,rfl⟩
 have HST:Hid (∀ W:World,∃ W2,W.setCell ⟨w.heap.size,i,none⟩ (.string X)=W2):=Lib.hid fun W=>⟨_,rfl⟩
 have HFR:Hid (∀ W:World,BoxM W w.heap.size 36 c f e l M→W.frozen? ⟨w.heap.size,i,none⟩=false):=Lib.hid fun W h=>boxM_free h i
 have HSE:=Lib.hid hse
 have HLA:=Lib.hid hla
 clear hm hn hc hX hnn hY hse hla
 rcases hw with ⟨rfl,-,rfl,-,rfl,rfl,rfl,rfl,rfl⟩ | ⟨rfl,-,rfl,-,rfl,rfl,rfl,rfl,rfl⟩ | ⟨rfl,-,rfl,-,rfl,rfl,rfl,rfl,rfl⟩ | ⟨rfl,-,rfl,-,rfl,rfl,rfl,rfl,rfl⟩ | ⟨rfl,-,rfl,-,rfl,rfl,rfl,rfl,rfl⟩
 all_goals
  go_enter Tryz.func78,Tryz.ntmps78
  go_wp2_with fail
  refine HNA.out.mono ?_
  rintro en w1 ⟨rfl,rfl⟩
  obtain ⟨W0,hW0⟩:∃ W0,two0 w c f e l M=W0:=⟨_,rfl⟩
  rw [hW0] at HS y0 y1 ⊢
  clear hW0 HNA
  have r0:=fun p:Since w.heap.size W0=>cell_since y0 hgw p
  have r1:=fun p:Since w.heap.size W0=>cell_since y1 hgw p
  have HD:Hid (Below W0.heap.size W0 W0.drew):=Lib.hid ⟨rfl,rfl,rfl,Nat.le_refl _,fun _ _=>rfl⟩
  obtain ⟨W1,hW1⟩:∃ W1,W0.drew=W1:=⟨_,rfl⟩
  rw [hW1] at HD
  have HS1:=Lib.hid (HS.out.below HD.out)
  have HD0:Hid (Below w.heap.size W0 W1):=Lib.hid (HD.out.mono HS.out.bel.size)
  obtain ⟨_,_,_,_,k4,k5,k6,k7,k8⟩:=HS1.out.box.nine
  have hf:=HFR.out _ HS1.out.box
  obtain ⟨W2,hW2⟩:=HST.out W1
  have HG2:Hid (W1.grownBy W2 (some w.heap.size)):=Lib.hid (by rw [←hW2];exact set_grown W1 w.heap.size _ (.string X))
  have HB2:Hid (BoxM W2 w.heap.size 36 c f e l Y):=Lib.hid (by rw [←hW2];exact box_set HS1.out.box HSE.out)
  have HR2:Hid (BoxM W2 (w.heap.size+1) 36 nil4 nil4 nil4 nil4 zeroM):=Lib.hid ((HG2.out.block _ HS1.out.res.lt (by simp)).trans HS1.out.res)
  have HW2:Hid (Below w.heap.size w W2):=Lib.hid (by rw [←hW2];exact set_below HS1.out.bel _ (.string X))
  have HD2:Hid (Below w.heap.size W0 W2):=Lib.hid (by rw [←hW2];exact HD0.out.setCell (p:=⟨w.heap.size,_,none⟩) (Nat.le_refl _) _)
  go_wp2_with fail
  refine wp_region_since w.heap.size (.one [0,2,3,4] 1 (.one [] 5 (.one [6,7,8,9] 10 (.last [11])))) (by kernel_rfl) (by kernel_rfl) (fun d _ _ _ _ h=>by cases d <;> exact h) ?_
  rw [hW1]
  clear hW1 y0 y1 x0 x1
  simp only [wpPlan,pick,nth]
  repeat (go_big_quiet_step (fail))
  refine wpQuiet_nil ?_
  intro K hK
  refine alone_want (by kernel_rfl) ?_
  go_big_op
  refine hK _ _ (since_in HD0.out) ?_
  clear hK K
  refine wpQuiet_nil ?_
  intro K hK
  refine alone_want (by kernel_rfl) ?_
  go_big_op
  refine (HSI.out _).mono ?_
  rintro en w3 ⟨rfl,rfl⟩
  refine hK _ _ (since_in HD0.out) ?_
  clear hK K
  repeat (go_big_quiet_step (fail))
  refine wpQuiet_nil ?_
  intro K hK
  refine alone_want (by kernel_rfl) ?_
  go_big_op
  refine hK _ _ (since_in HD2.out) ?_
  clear hK K r0 r1 k4 k5 k6 k7 k8 hf hW2
  repeat (go_big_quiet_step (fail))
  refine wpQuiet_nil ?_
  obtain ⟨k0,k1,k2,k3,k4,k5,k6,k7,k8⟩:=HB2.out.nine
  go_wp2_with (refine wpList_store_mast rfl 36 (.tmp 4) (.tmp 162) rfl (w.heap.size+1) nil4 nil4 nil4 nil4 c f e l zeroM Y 36 rfl rfl HR2.out HO.out (by kernel_rfl) ?_;intro w4 hb4 hg4)
  clear k0 k1 k2 k3 k4 k5 k6 k7 k8
  have HBG:=Lib.hid (HW2.out.grown hg4 HW2.out.size (fun j hj=>by cases hj;exact Nat.le_succ _))
  obtain ⟨c0,c1,c2,c3,c4,c5,c6,c7,c8⟩:=hb4.nine
  clear hb4 hg4
  refine bodyPost_ret (v:=.tuple #[aggM c f e l Y,.int .i64 n]) (by simp [results,Tryz.results78,go_sem,c0,c1,c2,c3,c4,c5,c6,c7,c8]) rfl ⟨_,rfl,fun h0=>⟨HY.out h0,?_⟩,HO.out,HBG.out⟩
  have hk:=HM.out.keep HBG.out
  obtain ⟨q1,q2,q3,q4⟩:=HLA.out
  exact ⟨by rw [q1];exact hk.chart,by rw [q2];exact hk.flows,by rw [q3];exact hk.ents,by rw [q4];exact hk.lines⟩
set_option maxRecDepth 100000 in
set_option maxHeartbeats 16000000 in
theorem small_entity (v c f e l:Value) (a b:ByteArray) (M:Mast) (w:World) (hm:MastIn w c f e l M) (hs:Sane M) (hv:StrsV w v [tEntity,a,b]) (hn:namesW [tEntity,a,b]=true) :
 Calls Tryz.prog 78 #[aggM c f e l M,v] w fun en w'=>∃ v3 M',en=.returned (.tuple #[aggM c f v3 l M',.int .i64 (entE M.ents ⟨a,b⟩)])∧(entE M.ents ⟨a,b⟩=0→M'={ M with ents:=G.insR Ent.code M.ents ⟨a,b⟩ }∧MastIn w' c f v3 l M')∧Ones c f v3 l∧Off1 w e v3∧Below w.heap.size w w':=by
 obtain ⟨pe,ce,ee0,_⟩:=hm.ents
 subst ee0
 have hlen:M.ents.length≤1000:=by have:=hs.le;omega
 have HS:=Lib.hid (two_start w hm)
 have HNA:=Lib.hid (rnames_any v _ (two0 w c f (.slice pe M.ents.length ce) l M) (hv.keep HS.out.bel))
 rw [hn] at HNA
 have HM:=Lib.hid hm
 have HO:=Lib.hid (ones_of hm)
 obtain ⟨p,cp,rfl,hcap,hml,hc⟩:=hv
 obtain ⟨g,o,rfl,x0⟩:=hc 0 tEntity rfl
 obtain ⟨g',o',e1,x1⟩:=hc 1 a rfl
 cases e1
 obtain ⟨g',o',e1,x2⟩:=hc 2 b rfl
 cases e1
 rw [show ([tEntity,a,b]:List ByteArray).length=3 from rfl] at HNA hcap hml ⊢
 rw [Nat.add_zero] at x0
 have hgw:g < w.heap.size:=World.block_lt_of_cell? w _ x0
 have y0:=cell_later HS.out.bel x0
 have y1:=cell_later HS.out.bel x1
 have y2:=cell_later HS.out.bel x2
 have gt:(tEntity.toList==[101,110,116,105,116,121])=true:=by rw [qEntity];decide
 obtain ⟨n,hnn⟩:∃ n,entE M.ents ⟨a,b⟩=n:=⟨_,rfl⟩
 obtain ⟨R,hR⟩:∃ R,G.insR Ent.code M.ents ⟨a,b⟩=R:=⟨_,rfl⟩
 rw [hnn,hR]
 clear hm hn hc
 go_enter Tryz.func78,Tryz.ntmps78
 go_wp2_with fail
 refine HNA.out.mono ?_
 rintro en w1 ⟨rfl,rfl⟩
 obtain ⟨W0,hW0⟩:∃ W0,two0 w c f (.slice pe M.ents.length ce) l M=W0:=⟨_,rfl⟩
 rw [hW0] at HS y0 y1 y2 ⊢
 clear hW0 HNA
 have r0:=fun p:Since w.heap.size W0=>cell_since y0 hgw p
 have r1:=fun p:Since w.heap.size W0=>cell_since y1 hgw p
 have r2:=fun p:Since w.heap.size W0=>cell_since y2 hgw p
 have HD:Hid (Below W0.heap.size W0 W0.drew):=Lib.hid ⟨rfl,rfl,rfl,Nat.le_refl _,fun _ _=>rfl⟩
 obtain ⟨W1,hW1⟩:∃ W1,W0.drew=W1:=⟨_,rfl⟩
 rw [hW1] at HD
 have HS1:=Lib.hid (HS.out.below HD.out)
 have HD0:Hid (Below w.heap.size W0 W1):=Lib.hid (HD.out.mono HS.out.bel.size)
 have HCA:=Lib.hid (rent_any (.slice pe M.ents.length ce) M.ents ⟨a,b⟩ W1 HS1.out.mast.ents hlen)
 rw [hnn,hR] at HCA
 have hk:=HS1.out.box.nine.c2
 clear hnn hR hlen hs
 go_wp2_with fail
 refine wp_region_since w.heap.size (.one [0,2,3,4,5,6,7,8] 1 (.one [] 9 (.one [10,11,12,13] 14 (.last [15])))) (by kernel_rfl) (by kernel_rfl) (fun d _ _ _ _ h=>by cases d <;> exact h) ?_
 rw [hW1]
 clear hW1 y0 x0 y1 x1 y2 x2
 simp only [wpPlan,pick,nth]
 repeat (go_big_quiet_step (fail))
 refine wpQuiet_nil ?_
 intro K hK
 refine alone_want (by kernel_rfl) ?_
 go_big_op
 refine hK _ _ (since_in HD0.out) ?_
 clear hK K
 refine wpQuiet_nil ?_
 intro K hK
 refine alone_want (by kernel_rfl) ?_
 go_big_op
 refine HCA.out.mono ?_
 rintro en w3 ⟨v3,rfl,ho3,hn3,hb3⟩
 obtain ⟨p3,m3,cp3,rfl⟩:=told_shape ho3 hn3
 have HO3:=Lib.hid ho3
 have HN3:=Lib.hid hn3
 have HS3:=Lib.hid (HS1.out.below hb3)
 have HD3:Hid (Below w.heap.size W0 w3):=Lib.hid (HD0.out.trans (hb3.mono HS1.out.bel.size))
 have hB1:=HS1.out.bel.size
 have hk3:=HS3.out.box.nine.c2
 have hf3:=boxM_free HS3.out.box 2
 obtain ⟨W2,hW2⟩:∃ W2,w3.setCell ⟨w.heap.size,2,none⟩ (.slice p3 m3 cp3)=W2:=⟨_,rfl⟩
 have HG2:Hid (w3.grownBy W2 (some w.heap.size)):=Lib.hid (by rw [←hW2];exact set_grown w3 w.heap.size 2 (.slice p3 m3 cp3))
 have HW2:Hid (Below w.heap.size w W2):=Lib.hid (by rw [←hW2];exact set_below HS3.out.bel 2 _)
 have HD2:Hid (Below w.heap.size W0 W2):=Lib.hid (by rw [←hW2];exact HD3.out.setCell (p:=⟨w.heap.size,2,none⟩) (Nat.le_refl _) _)
 obtain ⟨M2,hM2⟩:∃ M2:Mast,{ M with ents:=R }=M2:=⟨_,rfl⟩
 have HB2:Hid (BoxM W2 w.heap.size 36 c f (.slice p3 m3 cp3) l M2):=Lib.hid (by rw [←hW2,←hM2];exact box_set HS3.out.box rfl)
 have HR2:Hid (BoxM W2 (w.heap.size+1) 36 nil4 nil4 nil4 nil4 zeroM):=Lib.hid ((HG2.out.block _ HS3.out.res.lt (by simp)).trans HS3.out.res)
 have HM2:Hid (M2.chart=M.chart∧M2.flows=M.flows∧M2.lines=M.lines):=Lib.hid (by rw [←hM2];exact ⟨rfl,rfl,rfl⟩)
 have HMM:=Lib.hid hM2
 have HO2:Hid (Ones c f (.slice p3 m3 cp3) l):=Lib.hid ⟨HO.out.c,HO.out.f,rfl,HO.out.l⟩
 clear ho3 hn3 hb3 hM2
 refine hK _ _ (since_in HD3.out) ?_
 clear hK K hk
 repeat (go_big_quiet_step (fail))
 refine wpQuiet_nil ?_
 intro K hK
 refine alone_want (by kernel_rfl) ?_
 go_big_op
 refine hK _ _ (since_in HD2.out) ?_
 clear hK K r0 r1 r2 hk3 hf3 hW2
 repeat (go_big_quiet_step (fail))
 refine wpQuiet_nil ?_
 obtain ⟨k0,k1,k2,k3,k4,k5,k6,k7,k8⟩:=HB2.out.nine
 go_wp2_with (refine wpList_store_mast rfl 36 (.tmp 4) (.tmp 162) rfl (w.heap.size+1) nil4 nil4 nil4 nil4 c f (.slice p3 m3 cp3) l zeroM M2 36 rfl rfl HR2.out HO2.out (by kernel_rfl) ?_;intro w4 hb4 hg4)
 clear k0 k1 k2 k3 k4 k5 k6 k7 k8
 have HBG:=Lib.hid (HW2.out.grown hg4 HW2.out.size (fun j hj=>by cases hj;exact Nat.le_succ _))
 have HX4:Hid (n=0→ElsV encE w4 (.slice p3 m3 cp3) M2.ents):=Lib.hid (fun h0=>by
  obtain ⟨t,hr⟩:=HN3.out h0
  have h2:=(hr.kept HG2.out (.inr (fun e0=>by
   rcases hr.2 with ⟨e,_⟩ | ⟨g',_,_,e,hge,_⟩
   ·cases e;simp [Value.ownBlock] at e0
   ·cases e
    have h3:g'=w.heap.size:=by simpa [Value.ownBlock] using e0
    have:=HS1.out.box.lt
    omega))).kept hg4 (.inr (fun e0=>by
   rcases hr.2 with ⟨e,_⟩ | ⟨g',_,_,e,hge,_⟩
   ·cases e;simp [Value.ownBlock] at e0
   ·cases e
    have h3:g'=w.heap.size+1:=by simpa [Value.ownBlock] using e0
    have:=HS1.out.res.lt
    omega))
  rw [←HMM.out]
  exact els_of_own h2)
 obtain ⟨c0,c1,c2,c3,c4,c5,c6,c7,c8⟩:=hb4.nine
 clear hb4 hg4
 refine bodyPost_ret (v:=.tuple #[aggM c f (.slice p3 m3 cp3) l M2,.int .i64 n]) (by simp [results,Tryz.results78,go_sem,c0,c1,c2,c3,c4,c5,c6,c7,c8]) rfl ⟨_,_,rfl,fun h0=>⟨HMM.out.symm,?_⟩,HO2.out,Off1.told HO3.out HN3.out HS1.out.bel.size,HBG.out⟩
 have hk:=HM.out.keep HBG.out
 obtain ⟨m1,m2,m3⟩:=HM2.out
 exact ⟨by rw [m1];exact hk.chart,by rw [m2];exact hk.flows,HX4.out h0,by rw [m3];exact hk.lines⟩
set_option maxRecDepth 100000 in
set_option maxHeartbeats 16000000 in
theorem small_map (v c f e l:Value) (a b d:ByteArray) (M:Mast) (w:World) (hm:MastIn w c f e l M) (hs:Sane M) (hv:StrsV w v [tMap,a,b,d]) (hn:namesW [tMap,a,b,d]=true) :
 Calls Tryz.prog 78 #[aggM c f e l M,v] w fun en w'=>∃ v3 M',en=.returned (.tuple #[aggM c f e v3 M',.int .i64 (linEr M.lines ⟨a,b,d⟩)])∧(linEr M.lines ⟨a,b,d⟩=0→M'={ M with lines:=G.insR Lin.key M.lines ⟨a,b,d⟩ }∧MastIn w' c f e v3 M')∧Ones c f e v3∧Off1 w l v3∧Below w.heap.size w w':=by
 obtain ⟨pl,cl,el0,_⟩:=hm.lines
 subst el0
 have hlen:M.lines.length≤1000:=by have:=hs.ll;omega
 have HS:=Lib.hid (two_start w hm)
 have HNA:=Lib.hid (rnames_any v _ (two0 w c f e (.slice pl M.lines.length cl) M) (hv.keep HS.out.bel))
 rw [hn] at HNA
 have HM:=Lib.hid hm
 have HO:=Lib.hid (ones_of hm)
 obtain ⟨p,cp,rfl,hcap,hml,hc⟩:=hv
 obtain ⟨g,o,rfl,x0⟩:=hc 0 tMap rfl
 obtain ⟨g',o',e1,x1⟩:=hc 1 a rfl
 cases e1
 obtain ⟨g',o',e1,x2⟩:=hc 2 b rfl
 cases e1
 obtain ⟨g',o',e1,x3⟩:=hc 3 d rfl
 cases e1
 rw [show ([tMap,a,b,d]:List ByteArray).length=4 from rfl] at HNA hcap hml ⊢
 rw [Nat.add_zero] at x0
 have hgw:g < w.heap.size:=World.block_lt_of_cell? w _ x0
 have y0:=cell_later HS.out.bel x0
 have y1:=cell_later HS.out.bel x1
 have y2:=cell_later HS.out.bel x2
 have y3:=cell_later HS.out.bel x3
 have g0:(tMap.toList==[101,110,116,105,116,121])=false:=by rw [qEntity];decide
 have gt:(tMap.toList==[109,97,112])=true:=by rw [qMap];decide
 obtain ⟨n,hnn⟩:∃ n,linEr M.lines ⟨a,b,d⟩=n:=⟨_,rfl⟩
 obtain ⟨R,hR⟩:∃ R,G.insR Lin.key M.lines ⟨a,b,d⟩=R:=⟨_,rfl⟩
 rw [hnn,hR]
 clear hm hn hc
 go_enter Tryz.func78,Tryz.ntmps78
 go_wp2_with fail
 refine HNA.out.mono ?_
 rintro en w1 ⟨rfl,rfl⟩
 obtain ⟨W0,hW0⟩:∃ W0,two0 w c f e (.slice pl M.lines.length cl) M=W0:=⟨_,rfl⟩
 rw [hW0] at HS y0 y1 y2 y3 ⊢
 clear hW0 HNA
 have r0:=fun p:Since w.heap.size W0=>cell_since y0 hgw p
 have r1:=fun p:Since w.heap.size W0=>cell_since y1 hgw p
 have r2:=fun p:Since w.heap.size W0=>cell_since y2 hgw p
 have r3:=fun p:Since w.heap.size W0=>cell_since y3 hgw p
 have HD:Hid (Below W0.heap.size W0 W0.drew):=Lib.hid ⟨rfl,rfl,rfl,Nat.le_refl _,fun _ _=>rfl⟩
 obtain ⟨W1,hW1⟩:∃ W1,W0.drew=W1:=⟨_,rfl⟩
 rw [hW1] at HD
 have HS1:=Lib.hid (HS.out.below HD.out)
 have HD0:Hid (Below w.heap.size W0 W1):=Lib.hid (HD.out.mono HS.out.bel.size)
 have HCA:=Lib.hid (rline_any (.slice pl M.lines.length cl) M.lines ⟨a,b,d⟩ W1 HS1.out.mast.lines hlen)
 rw [hnn,hR] at HCA
 have hk:=HS1.out.box.nine.c3
 clear hnn hR hlen hs
 go_wp2_with fail
 refine wp_region_since w.heap.size (.one [0,2,3,4,5,6,7,8,9,10,11] 1 (.one [] 12 (.one [13,14,15,16] 17 (.last [18])))) (by kernel_rfl) (by kernel_rfl) (fun d _ _ _ _ h=>by cases d <;> exact h) ?_
 rw [hW1]
 clear hW1 y0 x0 y1 x1 y2 x2 y3 x3
 simp only [wpPlan,pick,nth]
 repeat (go_big_quiet_step (fail))
 refine wpQuiet_nil ?_
 intro K hK
 refine alone_want (by kernel_rfl) ?_
 go_big_op
 refine hK _ _ (since_in HD0.out) ?_
 clear hK K
 refine wpQuiet_nil ?_
 intro K hK
 refine alone_want (by kernel_rfl) ?_
 go_big_op
 refine HCA.out.mono ?_
 rintro en w3 ⟨v3,rfl,ho3,hn3,hb3⟩
 obtain ⟨p3,m3,cp3,rfl⟩:=told_shape ho3 hn3
 have HO3:=Lib.hid ho3
 have HN3:=Lib.hid hn3
 have HS3:=Lib.hid (HS1.out.below hb3)
 have HD3:Hid (Below w.heap.size W0 w3):=Lib.hid (HD0.out.trans (hb3.mono HS1.out.bel.size))
 have hB1:=HS1.out.bel.size
 have hk3:=HS3.out.box.nine.c3
 have hf3:=boxM_free HS3.out.box 3
 obtain ⟨W2,hW2⟩:∃ W2,w3.setCell ⟨w.heap.size,3,none⟩ (.slice p3 m3 cp3)=W2:=⟨_,rfl⟩
 have HG2:Hid (w3.grownBy W2 (some w.heap.size)):=Lib.hid (by rw [←hW2];exact set_grown w3 w.heap.size 3 (.slice p3 m3 cp3))
 have HW2:Hid (Below w.heap.size w W2):=Lib.hid (by rw [←hW2];exact set_below HS3.out.bel 3 _)
 have HD2:Hid (Below w.heap.size W0 W2):=Lib.hid (by rw [←hW2];exact HD3.out.setCell (p:=⟨w.heap.size,3,none⟩) (Nat.le_refl _) _)
 obtain ⟨M2,hM2⟩:∃ M2:Mast,{ M with lines:=R }=M2:=⟨_,rfl⟩
 have HB2:Hid (BoxM W2 w.heap.size 36 c f e (.slice p3 m3 cp3) M2):=Lib.hid (by rw [←hW2,←hM2];exact box_set HS3.out.box rfl)
 have HR2:Hid (BoxM W2 (w.heap.size+1) 36 nil4 nil4 nil4 nil4 zeroM):=Lib.hid ((HG2.out.block _ HS3.out.res.lt (by simp)).trans HS3.out.res)
 have HM2:Hid (M2.chart=M.chart∧M2.flows=M.flows∧M2.ents=M.ents):=Lib.hid (by rw [←hM2];exact ⟨rfl,rfl,rfl⟩)
 have HMM:=Lib.hid hM2
 have HO2:Hid (Ones c f e (.slice p3 m3 cp3)):=Lib.hid ⟨HO.out.c,HO.out.f,HO.out.e,rfl⟩
 clear ho3 hn3 hb3 hM2
 refine hK _ _ (since_in HD3.out) ?_
 clear hK K hk
 repeat (go_big_quiet_step (fail))
 refine wpQuiet_nil ?_
 intro K hK
 refine alone_want (by kernel_rfl) ?_
 go_big_op
 refine hK _ _ (since_in HD2.out) ?_
 clear hK K r0 r1 r2 r3 hk3 hf3 hW2
 repeat (go_big_quiet_step (fail))
 refine wpQuiet_nil ?_
 obtain ⟨k0,k1,k2,k3,k4,k5,k6,k7,k8⟩:=HB2.out.nine
 go_wp2_with (refine wpList_store_mast rfl 36 (.tmp 4) (.tmp 162) rfl (w.heap.size+1) nil4 nil4 nil4 nil4 c f e (.slice p3 m3 cp3) zeroM M2 36 rfl rfl HR2.out HO2.out (by kernel_rfl) ?_;intro w4 hb4 hg4)
 clear k0 k1 k2 k3 k4 k5 k6 k7 k8
 have HBG:=Lib.hid (HW2.out.grown hg4 HW2.out.size (fun j hj=>by cases hj;exact Nat.le_succ _))
 have HX4:Hid (n=0→ElsV encL w4 (.slice p3 m3 cp3) M2.lines):=Lib.hid (fun h0=>by
  obtain ⟨t,hr⟩:=HN3.out h0
  have h2:=(hr.kept HG2.out (.inr (fun e0=>by
   rcases hr.2 with ⟨e,_⟩ | ⟨g',_,_,e,hge,_⟩
   ·cases e;simp [Value.ownBlock] at e0
   ·cases e
    have h3:g'=w.heap.size:=by simpa [Value.ownBlock] using e0
    have:=HS1.out.box.lt
    omega))).kept hg4 (.inr (fun e0=>by
   rcases hr.2 with ⟨e,_⟩ | ⟨g',_,_,e,hge,_⟩
   ·cases e;simp [Value.ownBlock] at e0
   ·cases e
    have h3:g'=w.heap.size+1:=by simpa [Value.ownBlock] using e0
    have:=HS1.out.res.lt
    omega))
  rw [←HMM.out]
  exact els_of_own h2)
 obtain ⟨c0,c1,c2,c3,c4,c5,c6,c7,c8⟩:=hb4.nine
 clear hb4 hg4
 refine bodyPost_ret (v:=.tuple #[aggM c f e (.slice p3 m3 cp3) M2,.int .i64 n]) (by simp [results,Tryz.results78,go_sem,c0,c1,c2,c3,c4,c5,c6,c7,c8]) rfl ⟨_,_,rfl,fun h0=>⟨HMM.out.symm,?_⟩,HO2.out,Off1.told HO3.out HN3.out HS1.out.bel.size,HBG.out⟩
 have hk:=HM.out.keep HBG.out
 obtain ⟨m1,m2,m3⟩:=HM2.out
 exact ⟨by rw [m1];exact hk.chart,by rw [m2];exact hk.flows,by rw [m3];exact hk.ents,HX4.out h0⟩
theorem formed_no_names {ws:List ByteArray} (h:namesW ws=false):formedW ws=false:=by unfold formedW;rw [h];simp
theorem formed_no_len {ws:List ByteArray} {k:Nat} (hl:lenW (wd ws 0)=(k:Int)) (h:formedW ws=false) (hn:namesW ws=true) (h0:0 < ws.length):ws.length≠k:=fun e=>by
 unfold formedW at h
 rw [hn,hl,e] at h
 have:0 < k:=by omega
 simp [this] at h
theorem step_entity {M:Mast} {ws:List ByteArray} (hf:formedW ws=true) (h0:wd ws 0=tEntity):stepE M ws=entE M.ents (entOf ws)∧stepV M ws={ M with ents:=G.insK Ent.code M.ents (entOf ws) }:=by
 refine ⟨?_,?_⟩
 ·unfold stepE;rw [if_neg (by rw [h0];decide),if_neg (by rw [h0];decide),if_neg (by rw [hf];simp),if_pos h0]
 ·unfold stepV;rw [if_neg (by rw [h0];decide),if_neg (by rw [h0];decide),if_pos h0]
theorem step_map {M:Mast} {ws:List ByteArray} (hf:formedW ws=true) (h0:wd ws 0=tMap):stepE M ws=linEr M.lines (linOf ws)∧stepV M ws={ M with lines:=G.insK Lin.key M.lines (linOf ws) }:=by
 refine ⟨?_,?_⟩
 ·unfold stepE;rw [if_neg (by rw [h0];decide),if_neg (by rw [h0];decide),if_neg (by rw [hf];simp),if_neg (by rw [h0];decide),if_pos h0]
 ·unfold stepV;rw [if_neg (by rw [h0];decide),if_neg (by rw [h0];decide),if_neg (by rw [h0];decide),if_pos h0]
theorem step_group {M:Mast} {ws:List ByteArray} (hf:formedW ws=true) (h0:wd ws 0=tGroup):stepE M ws=oneE M.cur∧stepV M ws={ M with cur:=wd ws 1 }:=by
 refine ⟨?_,?_⟩
 ·unfold stepE;rw [if_neg (by rw [h0];decide),if_neg (by rw [h0];decide),if_neg (by rw [hf];simp),if_neg (by rw [h0];decide),if_neg (by rw [h0];decide),if_pos h0]
 ·unfold stepV;rw [if_neg (by rw [h0];decide),if_neg (by rw [h0];decide),if_neg (by rw [h0];decide),if_neg (by rw [h0];decide),if_pos h0]
theorem step_reserve {M:Mast} {ws:List ByteArray} (hf:formedW ws=true) (h0:wd ws 0=tReserve):stepE M ws=oneE M.res∧stepV M ws={ M with res:=wd ws 1 }:=by
 refine ⟨?_,?_⟩
 ·unfold stepE;rw [if_neg (by rw [h0];decide),if_neg (by rw [h0];decide),if_neg (by rw [hf];simp),if_neg (by rw [h0];decide),if_neg (by rw [h0];decide),if_neg (by rw [h0];decide),if_pos h0]
 ·unfold stepV;rw [if_neg (by rw [h0];decide),if_neg (by rw [h0];decide),if_neg (by rw [h0];decide),if_neg (by rw [h0];decide),if_neg (by rw [h0];decide),if_pos h0]
theorem step_differ {M:Mast} {ws:List ByteArray} (hf:formedW ws=true) (h0:wd ws 0=tDiffer):stepE M ws=oneE M.dif∧stepV M ws={ M with dif:=wd ws 1 }:=by
 refine ⟨?_,?_⟩
 ·unfold stepE;rw [if_neg (by rw [h0];decide),if_neg (by rw [h0];decide),if_neg (by rw [hf];simp),if_neg (by rw [h0];decide),if_neg (by rw [h0];decide),if_neg (by rw [h0];decide),if_neg (by rw [h0];decide),if_pos h0]
 ·unfold stepV;rw [if_neg (by rw [h0];decide),if_neg (by rw [h0];decide),if_neg (by rw [h0];decide),if_neg (by rw [h0];decide),if_neg (by rw [h0];decide),if_neg (by rw [h0];decide),if_pos h0]
theorem step_minor {M:Mast} {ws:List ByteArray} (hf:formedW ws=true) (h0:wd ws 0=tMinor):stepE M ws=oneE M.min∧stepV M ws={ M with min:=wd ws 1 }:=by
 refine ⟨?_,?_⟩
 ·unfold stepE;rw [if_neg (by rw [h0];decide),if_neg (by rw [h0];decide),if_neg (by rw [hf];simp),if_neg (by rw [h0];decide),if_neg (by rw [h0];decide),if_neg (by rw [h0];decide),if_neg (by rw [h0];decide),if_neg (by rw [h0];decide),if_pos h0]
 ·unfold stepV;rw [if_neg (by rw [h0];decide),if_neg (by rw [h0];decide),if_neg (by rw [h0];decide),if_neg (by rw [h0];decide),if_neg (by rw [h0];decide),if_neg (by rw [h0];decide),if_neg (by rw [h0];decide),if_pos h0]
theorem step_stake {M:Mast} {ws:List ByteArray} (hf:formedW ws=true) (h0:wd ws 0=tStake):stepE M ws=oneE M.stk∧stepV M ws={ M with stk:=wd ws 1 }:=by
 refine ⟨?_,?_⟩
 ·unfold stepE;rw [if_neg (by rw [h0];decide),if_neg (by rw [h0];decide),if_neg (by rw [hf];simp),if_neg (by rw [h0];decide),if_neg (by rw [h0];decide),if_neg (by rw [h0];decide),if_neg (by rw [h0];decide),if_neg (by rw [h0];decide),if_neg (by rw [h0];decide)]
 ·unfold stepV;rw [if_neg (by rw [h0];decide),if_neg (by rw [h0];decide),if_neg (by rw [h0];decide),if_neg (by rw [h0];decide),if_neg (by rw [h0];decide),if_neg (by rw [h0];decide),if_neg (by rw [h0];decide),if_neg (by rw [h0];decide)]
theorem rsmall_any (v c f e l:Value) (ws:List ByteArray) (M:Mast) (w:World) (hm:MastIn w c f e l M) (hs:Sane M) (hv:StrsV w v ws) (h0:0 < ws.length) (hA:wd ws 0≠tAccount) (hF:wd ws 0≠Fl.tFlow) :
 Calls Tryz.prog 78 #[aggM c f e l M,v] w (OneTold w c f e l M ws):=by
 obtain ⟨x0,hx0⟩:∃ x,ws[0]?=some x:=⟨_,List.getElem?_eq_getElem h0⟩
 have hwd:wd ws 0=x0:=wd_of hx0
 cases hn:namesW ws with
 | false=>exact small_names v c f e l ws M w hm hv hn (formed_no (formed_no_names hn) hA hF)
 | true =>
   cases hf:formedW ws with
   | false =>
     have hE:=formed_no hf hA hF (M:=M)
     refine small_no v c f e l ws M w hm hv hn hE x0 hx0 (fun h=>formed_no_len (k:=3) (lenW_3 (hwd.trans h)) hf hn h0) (fun h=>formed_no_len (k:=4) (lenW_4 (hwd.trans h)) hf hn h0) (fun h=>formed_no_len (k:=2) (lenW_2 (by simpa [hwd] using h)) hf hn h0)
   | true =>
     rcases formed_ways hf with ⟨w0,a,b,e1,_⟩ | ⟨w0,a,b,d,e1,_⟩ | ⟨w0,a,e1,_⟩
     ·obtain ⟨s1,s2⟩:=step_entity hf w0 (M:=M)
      subst e1
      unfold OneTold
      rw [s1,s2]
      refine (small_entity v c f e l a b M w hm hs hv hn).mono ?_
      rintro en w' ⟨v3,M',rfl,h2,h3,h8,h4⟩
      refine ⟨_,_,_,_,M',rfl,fun h5=>?_,h3,⟨Off1.refl _ _,Off1.refl _ _,h8,Off1.refl _ _⟩,h4⟩
      obtain ⟨h6,h7⟩:=h2 h5
      exact ⟨by rw [h6,show G.insR Ent.code M.ents ⟨a,b⟩=_ from G.insR_eq (x:=(⟨a,b⟩:Ent)) hs.en (entE_zero h5).1];rfl,h7⟩
     ·obtain ⟨s1,s2⟩:=step_map hf w0 (M:=M)
      subst e1
      unfold OneTold
      rw [s1,s2]
      refine (small_map v c f e l a b d M w hm hs hv hn).mono ?_
      rintro en w' ⟨v3,M',rfl,h2,h3,h8,h4⟩
      refine ⟨_,_,_,_,M',rfl,fun h5=>?_,h3,⟨Off1.refl _ _,Off1.refl _ _,Off1.refl _ _,h8⟩,h4⟩
      obtain ⟨h6,h7⟩:=h2 h5
      exact ⟨by rw [h6,show G.insR Lin.key M.lines ⟨a,b,d⟩=_ from G.insR_eq (x:=(⟨a,b,d⟩:Lin)) hs.li (linEr_zero h5).1];rfl,h7⟩
     ·have e2:wd ws 1=a:=by rw [e1];rfl
      rcases w0 with w0 | w0 | w0 | w0 | w0
      ·obtain ⟨s1,s2⟩:=step_group hf w0 (M:=M)
       rw [w0] at e1
       unfold OneTold
       rw [s1,s2,e2]
       subst e1
       refine (small_one _ _ _ _ true false false false false v c f e l a M w hm hv hn (.inl ⟨rfl,rfl,rfl,rfl,rfl,rfl,rfl,rfl,rfl⟩)).mono ?_
       rintro en w' ⟨M',rfl,h2,h3,h4⟩
       exact ⟨_,_,_,_,M',rfl,h2,h3,Off4.refl _ _ _ _ _,h4⟩
      ·obtain ⟨s1,s2⟩:=step_reserve hf w0 (M:=M)
       rw [w0] at e1
       unfold OneTold
       rw [s1,s2,e2]
       subst e1
       refine (small_one _ _ _ _ false true false false false v c f e l a M w hm hv hn (.inr (.inl ⟨rfl,rfl,rfl,rfl,rfl,rfl,rfl,rfl,rfl⟩))).mono ?_
       rintro en w' ⟨M',rfl,h2,h3,h4⟩
       exact ⟨_,_,_,_,M',rfl,h2,h3,Off4.refl _ _ _ _ _,h4⟩
      ·obtain ⟨s1,s2⟩:=step_differ hf w0 (M:=M)
       rw [w0] at e1
       unfold OneTold
       rw [s1,s2,e2]
       subst e1
       refine (small_one _ _ _ _ false false true false false v c f e l a M w hm hv hn (.inr (.inr (.inl ⟨rfl,rfl,rfl,rfl,rfl,rfl,rfl,rfl,rfl⟩)))).mono ?_
       rintro en w' ⟨M',rfl,h2,h3,h4⟩
       exact ⟨_,_,_,_,M',rfl,h2,h3,Off4.refl _ _ _ _ _,h4⟩
      ·obtain ⟨s1,s2⟩:=step_minor hf w0 (M:=M)
       rw [w0] at e1
       unfold OneTold
       rw [s1,s2,e2]
       subst e1
       refine (small_one _ _ _ _ false false false true false v c f e l a M w hm hv hn (.inr (.inr (.inr (.inl ⟨rfl,rfl,rfl,rfl,rfl,rfl,rfl,rfl,rfl⟩))))).mono ?_
       rintro en w' ⟨M',rfl,h2,h3,h4⟩
       exact ⟨_,_,_,_,M',rfl,h2,h3,Off4.refl _ _ _ _ _,h4⟩
      ·obtain ⟨s1,s2⟩:=step_stake hf w0 (M:=M)
       rw [w0] at e1
       unfold OneTold
       rw [s1,s2,e2]
       subst e1
       refine (small_one _ _ _ _ false false false false true v c f e l a M w hm hv hn (.inr (.inr (.inr (.inr ⟨rfl,rfl,rfl,rfl,rfl,rfl,rfl,rfl,rfl⟩))))).mono ?_
       rintro en w' ⟨M',rfl,h2,h3,h4⟩
       exact ⟨_,_,_,_,M',rfl,h2,h3,Off4.refl _ _ _ _ _,h4⟩
end Go.Proofs.YthcpglnmhimepaaGreatDoor.Un
end
