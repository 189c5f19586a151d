/- UnitRead UnitReadB -/
import Derived.BigRegion
import Derived.Test.YtfhhihamndbcnaaGreatDoorR34
section
namespace Go.Proofs.YtfhhihamndbcnaaGreatDoor.Un
open Go.RowKit Go.Maps
def LineTold (W:World) (B R m n:Nat) (M:Mast) (E:Int) (en:Ending) (W':World):Prop :=
 en=.returned (.int .i64 E)∧Below B W W'∧(E=0→∃ c f e l D,RdAt W' B R m c f e l n D M∧StoodOk D M)
theorem RdAt.mono {W:World} {B R m n k:Nat} {c f e l:Value} {D:DataW Unit} {M:Mast} (h:RdAt W B R m c f e l n D M) (hk:n≤k):RdAt W B R m c f e l k D M :=
 ⟨h.box,h.chart,h.flows,h.ents,h.lines,h.map.mono hk,h.geR,h.geM⟩
theorem RdAt.mapTurned {W W':World} {B R m n k:Nat} {c f e l:Value} {D D':DataW Unit} {M:Mast} (h:RdAt W B R m c f e l n D M) (hg:W.grownBy W' (some m)) (hm:MapRd W' m k D'):RdAt W' B R m c f e l k D' M:=by
 have hne:∀ {B':Nat} {e':TypeId} {s q:Nat} {v:Value} {xs:List Value},W.ownsRow B' e' s v q xs→v.ownBlock=none∨v.ownBlock≠some m:=fun hr=>.inr (map_apart h.map hr).symm
 refine ⟨(hg.block R h.lt (fun e0=>?_)).trans h.box,h.chart.kept hg (hne h.chart),h.flows.kept hg (hne h.flows),h.ents.kept hg (hne h.ents),h.lines.kept hg (hne h.lines),hm,h.geR,h.geM⟩
 cases e0
 obtain ⟨es,cl,hb,_⟩:=h.map
 have:=h.box
 unfold BoxRd at this
 rw [hb] at this;cases this
set_option maxRecDepth 100000 in
set_option maxHeartbeats 8000000 in
theorem read_head (v:Value) (ws:List ByteArray) (W0 W:World) (R m n:Nat) (c f e l:Value) (D:DataW Unit) (M:Mast) (hv0:StrsV W0 v ws) (h0:0 < ws.length) (hl:Laid W0) (hlf:Fl.Laid W0) (hb:Below W0.heap.size W0 W) (h:RdAt W W0.heap.size R m c f e l n D M) (hst:StoodOk D M) (hs:Sane M)
 (hw:wd ws 0=tAccount∨wd ws 0=Fl.tFlow∨formedW ws=false) :
 Calls Tryz.prog 51 #[.pointer (some ⟨R,0,none⟩),v] W (LineTold W W0.heap.size R m (n+1) (stepV M ws) (stepE M ws)):=by
 have hv:=hv0.keep hb
 obtain ⟨x0,hx0⟩:∃ x,ws[0]?=some x:=⟨_,List.getElem?_eq_getElem h0⟩
 have hwd:wd ws 0=x0:=wd_of hx0
 have q1:=qAccount x0
 have q2:=qFlow x0
 by_cases w1:x0=tAccount
 ·rw [decide_eq_true w1] at q1
  have HV:Hid (stepV M ws={ M with chart:=insL M.chart (parseA ws).1 }):=Lib.hid (by unfold stepV;rw [if_pos (hwd.trans w1)])
  have HE:Hid (stepE M ws=(if (parseA ws).2=0 then addE M.chart (parseA ws).1 else (parseA ws).2)):=Lib.hid (by unfold stepE;rw [if_pos (hwd.trans w1)])
  have HRA:=Lib.hid (readAccount_any v ws W W0.heap.size R m n c f e l D M hv (hl.below hb (Nat.le_refl _)) h hb.size (by have:=hs.lc;omega))
  rw [←HV.out,←HE.out] at HRA
  have HSS:Hid (StoodOk D (stepV M ws)):=Lib.hid (by rw [HV.out];exact hst.same rfl rfl rfl rfl rfl rfl rfl)
  obtain ⟨E,hE⟩:∃ E,stepE M ws=E:=⟨_,rfl⟩
  obtain ⟨N,hN⟩:∃ N,stepV M ws=N:=⟨_,rfl⟩
  rw [hE,hN] at HRA ⊢
  rw [hN] at HSS
  obtain ⟨p,cp,rfl,_,_,hc⟩:=hv
  obtain ⟨g,o,rfl,k0⟩:=hc 0 x0 hx0
  rw [Nat.add_zero] at k0
  obtain ⟨nw,hnw⟩:∃ nw,ws.length=nw:=⟨_,rfl⟩
  rw [hnw] at HRA h0 ⊢
  clear hE hN hc hx0 hwd w1 hv0 hl hlf hst hs h hw HV HE hnw
  go_enter Tryz.func51,Tryz.ntmps51
  go_wp2_with fail
  refine HRA.out.mono ?_
  rintro en w1 ⟨rfl,hb1,hrd⟩
  have HB1:=Lib.hid hb1
  have HRD:=Lib.hid hrd
  clear hb1 hrd
  go_wp2
  go_ret
  exact ⟨rfl,HB1.out,fun h0=>by
   obtain ⟨c,f,e,l,hr⟩:=HRD.out h0
   exact ⟨c,f,e,l,D,hr.mono (Nat.le_succ _),HSS.out⟩⟩
 ·rw [decide_eq_false w1] at q1
  by_cases w2:x0=Fl.tFlow
  ·rw [decide_eq_true w2] at q2
   have HV:Hid (stepV M ws={ M with flows:=insK Fl.Flow.code M.flows (Fl.parseF ws).1 }):=Lib.hid (by unfold stepV;rw [hwd,if_neg w1,if_pos w2])
   have HE:Hid (stepE M ws=(if (Fl.parseF ws).2=0 then Fl.addE M.flows (Fl.parseF ws).1 else (Fl.parseF ws).2)):=Lib.hid (by unfold stepE;rw [hwd,if_neg w1,if_pos w2])
   have HRA:=Lib.hid (readFlow_any v ws W W0.heap.size R m n c f e l D M hv (hlf.below hb (Nat.le_refl _)) h hb.size (by have:=hs.lf;omega) (Fl.rise_codes hs.fl))
   rw [←HV.out,←HE.out] at HRA
   have HSS:Hid (StoodOk D (stepV M ws)):=Lib.hid (by rw [HV.out];exact hst.same rfl rfl rfl rfl rfl rfl rfl)
   obtain ⟨E,hE⟩:∃ E,stepE M ws=E:=⟨_,rfl⟩
   obtain ⟨N,hN⟩:∃ N,stepV M ws=N:=⟨_,rfl⟩
   rw [hE,hN] at HRA ⊢
   rw [hN] at HSS
   obtain ⟨p,cp,rfl,_,_,hc⟩:=hv
   obtain ⟨g,o,rfl,k0⟩:=hc 0 x0 hx0
   rw [Nat.add_zero] at k0
   obtain ⟨nw,hnw⟩:∃ nw,ws.length=nw:=⟨_,rfl⟩
   rw [hnw] at HRA h0 ⊢
   clear hE hN hc hx0 hwd w1 w2 hv0 hl hlf hst hs h hw HV HE hnw
   go_enter Tryz.func51,Tryz.ntmps51
   go_wp2_with fail
   refine HRA.out.mono ?_
   rintro en w1 ⟨rfl,hb1,hrd⟩
   have HB1:=Lib.hid hb1
   have HRD:=Lib.hid hrd
   clear hb1 hrd
   go_wp2
   go_ret
   exact ⟨rfl,HB1.out,fun h0=>by
    obtain ⟨c,f,e,l,hr⟩:=HRD.out h0
    exact ⟨c,f,e,l,D,hr.mono (Nat.le_succ _),HSS.out⟩⟩
  ·rw [decide_eq_false w2] at q2
   have hff:formedW ws=false:=by
    rcases hw with hw | hw | hw
    ·exact absurd (hwd.symm.trans hw) w1
    ·exact absurd (hwd.symm.trans hw) w2
    ·exact hw
   have HE:Hid (stepE M ws=5):=Lib.hid (by unfold stepE;rw [hwd,if_neg w1,if_neg w2,if_pos hff])
   have HFO:=Lib.hid (formed_any v ws W hv h0)
   rw [hff] at HFO
   obtain ⟨E,hE⟩:∃ E,stepE M ws=E:=⟨_,rfl⟩
   obtain ⟨N,hN⟩:∃ N,stepV M ws=N:=⟨_,rfl⟩
   rw [hE] at HE
   rw [hE,hN]
   obtain ⟨p,cp,rfl,_,_,hc⟩:=hv
   obtain ⟨g,o,rfl,k0⟩:=hc 0 x0 hx0
   rw [Nat.add_zero] at k0
   obtain ⟨nw,hnw⟩:∃ nw,ws.length=nw:=⟨_,rfl⟩
   rw [hnw] at HFO h0 ⊢
   clear hE hN hc hx0 hwd w1 w2 hv0 hl hlf hst hs h hw hff hnw
   go_enter Tryz.func51,Tryz.ntmps51
   go_wp2_with fail
   refine HFO.out.mono ?_
   rintro en w1 ⟨rfl,rfl⟩
   go_wp2
   go_ret
   exact ⟨by rw [HE.out];rfl,Below.refl _ _,fun h1=>by rw [HE.out] at h1;simp at h1⟩
end Go.Proofs.YtfhhihamndbcnaaGreatDoor.Un
end
section
namespace Go.Proofs.YtfhhihamndbcnaaGreatDoor.Un
open Go.RowKit Go.Maps
set_option maxRecDepth 100000 in
theorem stood_entry {W:World} {m n:Nat} {D:DataW Unit} {M:Mast} {ws:List ByteArray} (hm:MapRd W m n D) (hst:StoodOk D M) (hf:formedW ws=true) (hn:n < maxLen) :
 (∃ c:Int,c=hadI M ws∧(Instr.lookup 121 (.map (some m)) (aggK (wd ws 0) (keyB ws) (keyC ws)) false).run Tryz.prog W=.ok (.int .i64 c) W) ∧
 (hadW M ws=false→∃ (v0:Value) (st:Nat) (W3 W4:World),(Instr.mapEntry 121 (.map (some m)) (aggK (wd ws 0) (keyB ws) (keyC ws))).run Tryz.prog W=.ok (.tuple #[v0,.int .i64 (st:Int)]) W3 ∧
  (Instr.lookup 121 (.map (some m)) (aggK (wd ws 0) (keyB ws) (keyC ws)) false).run Tryz.prog W3=.ok (.int .i64 0) W3 ∧
  (Instr.entryStore 121 (.map (some m)) (.int .i64 (st:Int)) (.int .i64 1)).run Tryz.prog W3=.ok () W4 ∧
  MapRd W4 m (n+1) (D.put (klW ws) (.lit (.int .i64 1)))∧W.grownBy W4 (some m)):=by
 obtain ⟨s1,s2,s3⟩:=formed_sizes hf
 have hkey:=keyOf_mk (wd ws 0) (keyB ws) (keyC ws) (small_len s1) (small_len s2) (small_len s3)
 have hT:=Tryz.underlying121
 have hI:=Tryz.underlying3
 refine ⟨?_,fun hno=>?_⟩
 ·obtain ⟨c,hrun,hat,_⟩:=hm.lookup_int keyLaw hT hI (zeroInt _) hkey
  have:=hst ws hf
  rw [hat] at this
  injection this with this
  injection this with _ this
  exact ⟨c,this,hrun⟩
 ·have hz0:plainElem (H:=Unit) Tryz.prog 3 (.int .i64 0)=some (.lit (.int .i64 0),[]):=plainElem_int hI (by decide)
  have h1:plainElem (H:=Unit) Tryz.prog 3 (.int .i64 1)=some (.lit (.int .i64 1),[]):=plainElem_int hI (by decide)
  obtain ⟨v0,st,W3,dv,he,hg3,ho3,hdv,hs⟩:=own_entry hm keyLaw hT (z:=.int .i64 0) (fun u=>zeroInt u) hz0 hn hkey
  obtain ⟨W4,hs4,ho4,hg4⟩:=hs (.int .i64 1) _ _ h1
  obtain ⟨c,hrun,hat,_⟩:=ho3.lookup_int keyLaw hT hI (zeroInt _) hkey
  have hc:c=0:=by
   rw [atKey_put_same (hm.tidy keyLaw).isMap (klit_key _ _ _),hdv,hst ws hf] at hat
   injection hat with hat
   injection hat with _ hat
   rw [←hat];unfold hadI;rw [hno];rfl
  subst hc
  exact ⟨v0,st,W3,W4,he,hrun,hs4,ho4,hg3.trans hg4⟩
set_option maxRecDepth 100000 in
set_option maxHeartbeats 8000000 in
theorem read_formed (v:Value) (ws:List ByteArray) (W0 W:World) (R m n:Nat) (c f e l:Value) (D:DataW Unit) (M:Mast) (hv0:StrsV W0 v ws) (hb:Below W0.heap.size W0 W) (h:RdAt W W0.heap.size R m c f e l n D M) (hst:StoodOk D M)
 (hw1:wd ws 0≠tAccount) (hw2:wd ws 0≠Fl.tFlow) (hf:formedW ws=true) (hn:n < maxLen)
 (HKP:∀ (X:World) (k:Nat) (D':DataW Unit),StrsV X v ws→RdAt X W0.heap.size R m c f e l k D' M→W0.heap.size≤X.heap.size→Calls Tryz.prog 80 #[.pointer (some ⟨R,0,none⟩),v] X (ReadTold X W0.heap.size R m k D' (stepV M ws) (keepE M ws))) :
 Calls Tryz.prog 51 #[.pointer (some ⟨R,0,none⟩),v] W (LineTold W W0.heap.size R m (n+1) (stepV M ws) (stepE M ws)):=by
 have hv:=hv0.keep hb
 have h0:0 < ws.length:=by
  unfold formedW at hf
  rw [Bool.and_eq_true,decide_eq_true_eq] at hf
  exact hf.1
 obtain ⟨x0,hx0⟩:∃ x,ws[0]?=some x:=⟨_,List.getElem?_eq_getElem h0⟩
 have hwd:wd ws 0=x0:=wd_of hx0
 have q1:=qAccount x0
 have q2:=qFlow x0
 rw [decide_eq_false (by rw [←hwd];exact hw1)] at q1
 rw [decide_eq_false (by rw [←hwd];exact hw2)] at q2
 have HSF:Hid (stepE M ws=if hadW M ws=true then 7 else keepE M ws):=Lib.hid (step_formed hw1 hw2 hf)
 have HFO:=Lib.hid (formed_any v ws W hv h0)
 rw [hf] at HFO
 have HKO:=Lib.hid (keyOf_any v ws W hv hf)
 have HSE:=Lib.hid (fun (X:World) (hX:MapRd X m n D)=>stood_entry hX hst hf hn)
 have HSP:Hid (stepE M ws=0→StoodOk (D.put (klW ws) (.lit (.int .i64 1))) (stepV M ws)):=Lib.hid (fun h0=>hst.step (h.map.tidy keyLaw) hf h0)
 obtain ⟨kA,hkA⟩:∃ kA,wd ws 0=kA:=⟨_,rfl⟩
 obtain ⟨kB,hkB⟩:∃ kB,keyB ws=kB:=⟨_,rfl⟩
 obtain ⟨kC,hkC⟩:∃ kC,keyC ws=kC:=⟨_,rfl⟩
 rw [hkA,hkB,hkC] at HKO
 simp only [hkA,hkB,hkC] at HSE
 obtain ⟨E,hE⟩:∃ E,stepE M ws=E:=⟨_,rfl⟩
 obtain ⟨N,hN⟩:∃ N,stepV M ws=N:=⟨_,rfl⟩
 obtain ⟨K,hK⟩:∃ K,keepE M ws=K:=⟨_,rfl⟩
 rw [hE,hK] at HSF
 rw [hE,hN] at HSP ⊢
 simp only [hN,hK] at HKP
 have HKE:=Lib.hid HKP
 have HV0:=Lib.hid hv0
 have HRD:=Lib.hid h
 have HB:=Lib.hid hb
 obtain ⟨p,cp,rfl,_,_,hc⟩:=hv
 obtain ⟨g,o,rfl,k0⟩:=hc 0 x0 hx0
 rw [Nat.add_zero] at k0
 obtain ⟨nw,hnw⟩:∃ nw,ws.length=nw:=⟨_,rfl⟩
 rw [hnw] at HFO HKO HV0 h0 ⊢
 simp only [hnw] at HKE
 clear HKP hE hN hK hkA hkB hkC hc hx0 hwd hw1 hw2 hv0 hst h hf hnw hb hn
 go_enter Tryz.func51,Tryz.ntmps51
 go_wp2_with fail
 refine HFO.out.mono ?_
 rintro en w1 ⟨rfl,rfl⟩
 go_wp2_with fail
 refine HKO.out.mono ?_
 rintro en w2 ⟨rfl,hb2⟩
 have hb3:=hb2.alloc hb2.size (.cells #[.string kA,.string kB,.string kC] 167)
 have HR3:=Lib.hid (HRD.out.below hb3)
 have HX3:=Lib.hid (BoxE.new encK w2 (kA,kB,kC) 167)
 have HB3:=Lib.hid (HB.out.trans (hb3.mono HB.out.size))
 have HBW:=Lib.hid (hb3.mono HB.out.size)
 obtain ⟨W3,hW3⟩:∃ W3,w2.alloc (.cells #[.string kA,.string kB,.string kC] 167)=W3:=⟨_,rfl⟩
 have hW3':w2.alloc (.cells (encK.cs (kA,kB,kC)).toArray 167)=W3:=hW3
 rw [hW3] at HR3 HB3 HBW
 rw [hW3'] at HX3
 clear hb2 hb3 hW3'
 go_wp2_with fail
 clear hW3
 obtain ⟨W4,hW4⟩:∃ W4,W3.drew=W4:=⟨_,rfl⟩
 have HR4:Hid (RdAt W4 W0.heap.size R m c f e l n D M):=Lib.hid (by rw [←hW4];exact HR3.out.below ⟨rfl,rfl,rfl,Nat.le_refl _,fun _ _=>rfl⟩)
 have HX4:Hid (BoxE encK W4 w2.heap.size 167 (kA,kB,kC)):=Lib.hid (by rw [←hW4];exact HX3.out)
 have HB4:Hid (Below W0.heap.size W0 W4):=Lib.hid (by rw [←hW4];exact ⟨HB3.out.os,HB3.out.tape,HB3.out.output,HB3.out.size,HB3.out.block⟩)
 have HW4:Hid (Below W0.heap.size w1 W4):=Lib.hid (by rw [←hW4];exact ⟨HBW.out.os,HBW.out.tape,HBW.out.output,HBW.out.size,HBW.out.block⟩)
 obtain ⟨⟨cc,hcc,hlk⟩,hen⟩:=HSE.out W4 HR4.out.map
 have hten:=HR4.out.ten
 obtain ⟨y0,y1,y2⟩:=key3 HX4.out
 obtain ⟨hd,hhd⟩:∃ hd,hadW M ws=hd:=⟨_,rfl⟩
 unfold hadI at hcc
 rw [hhd] at hcc hen HSF
 have HHD:=Lib.hid hhd
 refine wp_region_still_lit (by kernel_rfl) (by kernel_rfl) ?_
 rw [show ({ heap:=W3.heap,tape:=W3.tape,drawn:=W3.drawn+1,os:=W3.os,output:=W3.output }:World)=W4 from hW4]
 clear hW4 hhd HR3 HX3 HB3 HBW
 cases hd with
 | true =>
   have HE7:Hid (E=7):=Lib.hid (by rw [HSF.out];rfl)
   rw [if_pos rfl] at hcc
   subst hcc
   clear hen
   repeat still_step
   refine wpStill_nil ?_
   go_wp2
   go_ret
   exact ⟨by rw [HE7.out];rfl,HW4.out,fun h1=>by rw [HE7.out] at h1;simp at h1⟩
 | false =>
   have HEK:Hid (E=K):=Lib.hid (by rw [HSF.out];rfl)
   rw [if_neg (by simp)] at hcc
   subst hcc
   clear hen
   repeat still_step
   refine wpStill_nil ?_
   clear hlk hten y0 y1 y2
   go_wp2_with fail
   have HR5:Hid (RdAt W4.drew W0.heap.size R m c f e l n D M):=Lib.hid (HR4.out.below ⟨rfl,rfl,rfl,Nat.le_refl _,fun _ _=>rfl⟩)
   have HX5:Hid (BoxE encK W4.drew w2.heap.size 167 (kA,kB,kC)):=Lib.hid HX4.out
   obtain ⟨⟨cc,hcc,hlk⟩,hen⟩:=HSE.out W4.drew HR5.out.map
   unfold hadI at hcc
   rw [HHD.out] at hcc hen
   rw [if_neg (by simp)] at hcc
   subst hcc
   obtain ⟨v0,st,W6,W7,he,hl6,hs7,ho7,hg7⟩:=hen rfl
   have hten:=HR5.out.ten
   obtain ⟨y0,y1,y2⟩:=key3 HX5.out
   have HR7:=Lib.hid (HR5.out.mapTurned hg7 ho7)
   have HB7:Hid (Below W0.heap.size W0 W7):=Lib.hid (by
    have hb5:Below W0.heap.size W0 W4.drew:=⟨HB4.out.os,HB4.out.tape,HB4.out.output,HB4.out.size,HB4.out.block⟩
    exact hb5.grown hg7 hb5.size (fun j hj=>by cases hj;exact HR4.out.geM))
   have HW7:Hid (Below W0.heap.size w1 W7):=Lib.hid (by
    have hb5:Below W0.heap.size w1 W4.drew:=⟨HW4.out.os,HW4.out.tape,HW4.out.output,HW4.out.size,HW4.out.block⟩
    exact hb5.grown hg7 HB4.out.size (fun j hj=>by cases hj;exact HR4.out.geM))
   clear ho7 hg7
   go_region
   clear he hl6 hs7 hlk hten y0 y1 y2
   go_wp2_with fail
   refine (HKE.out W7 _ _ (HV0.out.keep HB7.out) HR7.out HB7.out.size).mono ?_
   rintro en w9 ⟨rfl,hb9,hrd9⟩
   have HB9:=Lib.hid (HW7.out.trans hb9)
   have HR9:=Lib.hid hrd9
   clear hb9 hrd9
   go_wp2
   go_ret
   exact ⟨by rw [HEK.out];rfl,HB9.out,fun h1=>by
    obtain ⟨c9,f9,e9,l9,hr9⟩:=HR9.out (by rw [←HEK.out];exact h1)
    exact ⟨c9,f9,e9,l9,_,hr9,HSP.out h1⟩⟩
end Go.Proofs.YtfhhihamndbcnaaGreatDoor.Un
end
