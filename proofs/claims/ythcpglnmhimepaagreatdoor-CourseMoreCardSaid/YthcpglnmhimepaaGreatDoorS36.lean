/- CsOf UnitDocOne -/
import Derived.Test.YthcpglnmhimepaaGreatDoorS31
import Derived.Test.YthcpglnmhimepaaGreatDoorS32
import Derived.Test.YthcpglnmhimepaaGreatDoorS33
import Derived.Test.YthcpglnmhimepaaGreatDoorS34
section
namespace Go.Proofs.YthcpglnmhimepaaGreatDoor.Cs
open Go.RowKit Go.Proofs.YthcpglnmhimepaaGreatDoor.Un Go.Proofs.YthcpglnmhimepaaGreatDoor.Pk
set_option maxRecDepth 100000 in
set_option maxHeartbeats 8000000 in
theorem of_any (cv fv e l vl:Value) (M:Mast) (L:List Crs) (c f:ByteArray) (w:World) (hM:MastIn w cv fv e l M) (hV:TabV w vl L) (hL0:L.length≤1000) (hk:hasFl M f=true→0≤kindF M f∧kindF M f < 5) :
 Calls Tryz.prog 17 #[aggM cv fv e l M,vl,.string c,.string f] w fun en w'=>en=.returned (.tuple #[.agg #[.int .i64 (ofC M L c f).1.1,.int .i64 (ofC M L c f).1.2],.int .i64 (ofC M L c f).2])∧Below w.heap.size w w':=by
 have hL:=Lib.hid hL0
 obtain ⟨pc,cc,pf,cf,pe,ce,pl,cl,rfl,rfl,rfl,rfl⟩:=shapes hM
 obtain ⟨W1,hW1⟩:∃ W1,w.alloc (.cells (cellsM (.slice pc M.chart.length cc) (.slice pf M.flows.length cf) (.slice pe M.ents.length ce) (.slice pl M.lines.length cl) M) 36)=W1:=⟨_,rfl⟩
 have hb1:Below w.heap.size w W1:=by rw [←hW1];exact (Below.refl _ w).alloc (Nat.le_refl _) _
 have hn1:NineAt W1 w.heap.size (.slice pc M.chart.length cc) (.slice pf M.flows.length cf) (.slice pe M.ents.length ce) (.slice pl M.lines.length cl) M:=by rw [←hW1];exact nine_new w _ _ _ _ M _
 have hs1:W1.heap.size=w.heap.size+1:=by rw [←hW1,World.size_alloc]
 obtain ⟨W2,hW2⟩:∃ W2,W1.alloc (.cells #[.int .i64 0,.int .i64 0] 56)=W2:=⟨_,rfl⟩
 have hb12:Below W1.heap.size W1 W2:=by rw [←hW2];exact (Below.refl _ W1).alloc (Nat.le_refl _) _
 have hw2:Ra.RateVar W2 (w.heap.size+1) 0 0:=by rw [←hW2,←hs1];exact Ra.RateVar.mk W1 0 0 _
 have hb2:=hb1.trans (hb12.mono hb1.size)
 have HB2:=Lib.hid hb2
 have HN2:=Lib.hid (hn1.kept hb12)
 have HW2:=Lib.hid hw2
 have HM2:=Lib.hid (hM.keep hb2)
 have HV2:=Lib.hid (hV.keep hb2)
 have HS1:=Lib.hid hs1
 obtain ⟨O,hO⟩:∃ O,ofC M L c f=O:=⟨_,rfl⟩
 have HOO:=Lib.hid hO
 rw [hO]
 have HKI:=Lib.hid (fun W h=>rkind_any (.slice pf M.flows.length cf) M.flows f W h)
 have HKD:Hid (kindF M f=kindO' (Fl.findF M.flows f)):=Lib.hid (kind_doc M f)
 have HHF:Hid (hasFl M f=(Fl.findF M.flows f).isSome):=Lib.hid rfl
 have HK:=Lib.hid hk
 obtain ⟨kn,hkn⟩:∃ k,kindO' (Fl.findF M.flows f)=k:=⟨_,rfl⟩
 obtain ⟨is,his⟩:∃ b,(Fl.findF M.flows f).isSome=b:=⟨_,rfl⟩
 simp only [hkn,his] at HKI
 rw [hkn] at HKD
 rw [his] at HHF
 rw [HKD.out,HHF.out] at HK
 have HF2:=Lib.hid (fun (W:World) (h:TabV W vl L)=>find_any vl L tFlow f c W h hL.out)
 obtain ⟨N2,hN2⟩:∃ N,fndN L (tFlow,f,c)=N:=⟨_,rfl⟩
 obtain ⟨D2,hD2⟩:∃ D,fndD L (tFlow,f,c)=D:=⟨_,rfl⟩
 obtain ⟨B2,hB2⟩:∃ B,fndB L (tFlow,f,c)=B:=⟨_,rfl⟩
 simp only [hN2,hD2,hB2] at HF2
 have HFN:=Lib.hid (And.intro hN2 (And.intro hD2 hB2))
 clear hM hV hb1 hn1 hs1 hb12 hw2 hb2 hO hkn his hk hL0 hN2 hD2 hB2
 obtain ⟨k0,k1,k2,k3,k4,k5,k6,k7,k8⟩:=HN2.out
 go_enter Tryz.func17,Tryz.ntmps17
 go_wp2_with fail
 clear k0 k1 k2 k3 k4 k5 k6 k7 k8 hW1 hW2
 refine (HKI.out _ HM2.out.flows).mono ?_
 rintro en w3 ⟨rfl,hb3⟩
 have HB3:=Lib.hid (HB2.out.trans (hb3.mono HB2.out.size))
 have HN3:=Lib.hid (HN2.out.kept hb3)
 have HV3:=Lib.hid (HV2.out.keep hb3)
 have HW3:=Lib.hid (HW2.out.keep hb3 (Nat.le_refl _))
 rw [HS1.out]
 clear hb3 HB2 HN2 HV2 HM2 HKI HW2
 obtain ⟨k0,k1,k2,k3,k4,k5,k6,k7,k8⟩:=HN3.out
 cases is with
 | false =>
   have HO:Hid (O=((0,0),6)):=Lib.hid (by rw [←HOO.out];unfold ofC;rw [HHF.out];rfl)
   obtain ⟨⟨c0,c1⟩,f0,f1⟩:=HW3.out
   go_wp2
   exact bodyPost_ret (v:=.tuple #[.agg #[.int .i64 0,.int .i64 0],.int .i64 6]) (by simp [results,Tryz.results17,go_sem,c0,c1]) rfl ⟨by rw [HO.out],(HB3.out.setCell (p:=⟨w.heap.size+1,0,none⟩) (Nat.le_succ _) _).setCell (p:=⟨w.heap.size+1,1,none⟩) (Nat.le_succ _) _⟩
 | true =>
 obtain ⟨g1,g2⟩:=HK.out rfl
 by_cases hk2:kn=2
 ·have HO:Hid (O=((0,0),8)):=Lib.hid (by rw [←HOO.out];unfold ofC;rw [HHF.out,HKD.out,if_neg (by simp),if_pos hk2])
  obtain ⟨⟨c0,c1⟩,f0,f1⟩:=HW3.out
  subst hk2
  go_wp2
  exact bodyPost_ret (v:=.tuple #[.agg #[.int .i64 0,.int .i64 0],.int .i64 8]) (by simp [results,Tryz.results17,go_sem,c0,c1]) rfl ⟨by rw [HO.out],(HB3.out.setCell (p:=⟨w.heap.size+1,0,none⟩) (Nat.le_succ _) _).setCell (p:=⟨w.heap.size+1,1,none⟩) (Nat.le_succ _) _⟩
 cases hc:(c.toList==M.cur.toList) with
 | true =>
   have hk21:(kn==2)=false:=by simpa using hk2
   have HO:Hid (O=((1,1),0)):=Lib.hid (by rw [←HOO.out];unfold ofC;rw [HHF.out,HKD.out,if_neg (by simp),if_neg hk2,if_pos ((Lib.bytes_beq_iff c M.cur).1 hc)])
   obtain ⟨⟨c0,c1⟩,f0,f1⟩:=HW3.out
   clear hk2 g1 g2
   go_wp2
   exact bodyPost_ret (v:=.tuple #[.agg #[.int .i64 1,.int .i64 1],.int .i64 0]) (by simp [results,Tryz.results17,go_sem,c0,c1]) rfl ⟨by rw [HO.out],(HB3.out.setCell (p:=⟨w.heap.size+1,0,none⟩) (Nat.le_succ _) _).setCell (p:=⟨w.heap.size+1,1,none⟩) (Nat.le_succ _) _⟩
 | false =>
 have hcase:kn=0∨kn=1∨kn=3∨kn=4:=by omega
 clear g1 g2 hk2 HK
 have HFA:Hid (fndN L (tFlow,f,c)=N2∧fndD L (tFlow,f,c)=D2∧fndB L (tFlow,f,c)=B2):=HFN
 rcases hcase with rfl | rfl | rfl | rfl
 ·have HF1:=Lib.hid (fun (W:World) (h:TabV W vl L)=>find_any vl L tPrior emp c W h hL.out)
  have HOF:Hid (O=match rateO L (tFlow,f,c) with
   | some r=>(r,0)
   | none=>match rateO L (tPrior,emp,c) with
     | some r=>(r,0)
     | none=>((0,0),10)):=Lib.hid (by rw [←HOO.out];unfold ofC;rw [HHF.out,HKD.out,if_neg (by simp),if_neg (by decide),if_neg ((Lib.bytes_beq_false_iff c M.cur).1 hc)];rfl)
  rw [fnd_rate,fnd_rate] at HOF
  obtain ⟨N1,hN1⟩:∃ N,fndN L (tPrior,emp,c)=N:=⟨_,rfl⟩
  obtain ⟨D1,hD1⟩:∃ D,fndD L (tPrior,emp,c)=D:=⟨_,rfl⟩
  obtain ⟨B1,hB1⟩:∃ B,fndB L (tPrior,emp,c)=B:=⟨_,rfl⟩
  simp only [hN1,hD1,hB1] at HF1
  rw [hN1,hD1,hB1,HFA.out.1,HFA.out.2.1,HFA.out.2.2] at HOF
  have hb4:=(Below.refl w3.heap.size w3).alloc (Nat.le_refl _) (.cells #[.string ⟨#[112,114,105,111,114]⟩,.string ⟨#[97,118,101,114,97,103,101]⟩,.string ⟨#[]⟩,.string ⟨#[97,118,101,114,97,103,101]⟩,.string ⟨#[99,108,111,115,101]⟩] 9)
  have HB4:=Lib.hid (HB3.out.trans (hb4.mono HB3.out.size))
  have HV4:=Lib.hid (HV3.out.keep hb4)
  have HW4:=Lib.hid (HW3.out.keep hb4 (Nat.le_refl _))
  have hq:(w3.alloc (.cells #[.string ⟨#[112,114,105,111,114]⟩,.string ⟨#[97,118,101,114,97,103,101]⟩,.string ⟨#[]⟩,.string ⟨#[97,118,101,114,97,103,101]⟩,.string ⟨#[99,108,111,115,101]⟩] 9)).cell? ⟨w3.heap.size,0,none⟩=some (.string ⟨#[112,114,105,111,114]⟩):=by rw [cell_of_row _ w3.heap.size 0 _ _ (0,0) (heap_alloc_new w3 _)];rfl
  clear hN1 hD1 hB1 hb4
  go_wp2_with fail
  clear k0 k1 k2 k3 k4 k5 k6 k7 k8 hq
  refine (HF1.out _ HV4.out).mono ?_
  rintro en w5 ⟨rfl,hb5⟩
  have hb6:=hb5.alloc hb5.size (.cells #[.int .i64 N1,.int .i64 D1] 56)
  have HB6:=Lib.hid (HB4.out.trans (hb6.mono HB4.out.size))
  have HV6:=Lib.hid (HV4.out.keep hb6)
  have HW6:=Lib.hid (HW4.out.keep hb6 (Nat.le_refl _))
  have HR6:=Lib.hid (Ra.RateAt.mk w5 N1 D1 56)
  clear hb5 hb6 HF1 HB4 HV4 HW4
  go_wp2_with fail
  refine (HF2.out _ HV6.out).mono ?_
  rintro en w7 ⟨rfl,hb7⟩
  have hb8:=hb7.alloc hb7.size (.cells #[.int .i64 N2,.int .i64 D2] 56)
  have HB8:=Lib.hid (HB6.out.trans (hb8.mono HB6.out.size))
  have HW8:=Lib.hid (HW6.out.keep hb8 (Nat.le_refl _))
  have HR8:=Lib.hid (HR6.out.keep hb8 (Nat.le_refl _))
  obtain ⟨q0,q1⟩:=Ra.RateAt.mk w7 N2 D2 56
  obtain ⟨p0,p1⟩:=HR8.out
  obtain ⟨⟨c0,c1⟩,f0,f1⟩:=HW8.out
  clear hb7 hb8 HB6 HV6 HW6 HR6
  cases B2 with
  | true =>
    have HO:Hid (O=((N2,D2),0)):=Lib.hid (by rw [HOF.out];rfl)
    go_wp2
    exact bodyPost_ret (v:=.tuple #[.agg #[.int .i64 N2,.int .i64 D2],.int .i64 0]) (by simp [results,Tryz.results17,go_sem,c0,c1]) rfl ⟨by rw [HO.out],(HB8.out.setCell (p:=⟨w.heap.size+1,0,none⟩) (Nat.le_succ _) _).setCell (p:=⟨w.heap.size+1,1,none⟩) (Nat.le_succ _) _⟩
  | false =>
    cases B1 with
    | true =>
      have HO:Hid (O=((N1,D1),0)):=Lib.hid (by rw [HOF.out];rfl)
      go_wp2
      exact bodyPost_ret (v:=.tuple #[.agg #[.int .i64 N1,.int .i64 D1],.int .i64 0]) (by simp [results,Tryz.results17,go_sem,c0,c1]) rfl ⟨by rw [HO.out],(HB8.out.setCell (p:=⟨w.heap.size+1,0,none⟩) (Nat.le_succ _) _).setCell (p:=⟨w.heap.size+1,1,none⟩) (Nat.le_succ _) _⟩
    | false =>
      have HO:Hid (O=((0,0),10)):=Lib.hid (by rw [HOF.out];rfl)
      go_wp2
      exact bodyPost_ret (v:=.tuple #[.agg #[.int .i64 0,.int .i64 0],.int .i64 10]) (by simp [results,Tryz.results17,go_sem,c0,c1]) rfl ⟨by rw [HO.out],(HB8.out.setCell (p:=⟨w.heap.size+1,0,none⟩) (Nat.le_succ _) _).setCell (p:=⟨w.heap.size+1,1,none⟩) (Nat.le_succ _) _⟩
 ·have HF1:=Lib.hid (fun (W:World) (h:TabV W vl L)=>find_any vl L tAverage emp c W h hL.out)
  have HOF:Hid (O=match rateO L (tFlow,f,c) with
   | some r=>(r,0)
   | none=>match rateO L (tAverage,emp,c) with
     | some r=>(r,0)
     | none=>((0,0),10)):=Lib.hid (by rw [←HOO.out];unfold ofC;rw [HHF.out,HKD.out,if_neg (by simp),if_neg (by decide),if_neg ((Lib.bytes_beq_false_iff c M.cur).1 hc)];rfl)
  rw [fnd_rate,fnd_rate] at HOF
  obtain ⟨N1,hN1⟩:∃ N,fndN L (tAverage,emp,c)=N:=⟨_,rfl⟩
  obtain ⟨D1,hD1⟩:∃ D,fndD L (tAverage,emp,c)=D:=⟨_,rfl⟩
  obtain ⟨B1,hB1⟩:∃ B,fndB L (tAverage,emp,c)=B:=⟨_,rfl⟩
  simp only [hN1,hD1,hB1] at HF1
  rw [hN1,hD1,hB1,HFA.out.1,HFA.out.2.1,HFA.out.2.2] at HOF
  have hb4:=(Below.refl w3.heap.size w3).alloc (Nat.le_refl _) (.cells #[.string ⟨#[112,114,105,111,114]⟩,.string ⟨#[97,118,101,114,97,103,101]⟩,.string ⟨#[]⟩,.string ⟨#[97,118,101,114,97,103,101]⟩,.string ⟨#[99,108,111,115,101]⟩] 9)
  have HB4:=Lib.hid (HB3.out.trans (hb4.mono HB3.out.size))
  have HV4:=Lib.hid (HV3.out.keep hb4)
  have HW4:=Lib.hid (HW3.out.keep hb4 (Nat.le_refl _))
  have hq:(w3.alloc (.cells #[.string ⟨#[112,114,105,111,114]⟩,.string ⟨#[97,118,101,114,97,103,101]⟩,.string ⟨#[]⟩,.string ⟨#[97,118,101,114,97,103,101]⟩,.string ⟨#[99,108,111,115,101]⟩] 9)).cell? ⟨w3.heap.size,1,none⟩=some (.string ⟨#[97,118,101,114,97,103,101]⟩):=by rw [cell_of_row _ w3.heap.size 1 _ _ (0,0) (heap_alloc_new w3 _)];rfl
  clear hN1 hD1 hB1 hb4
  go_wp2_with fail
  clear k0 k1 k2 k3 k4 k5 k6 k7 k8 hq
  refine (HF1.out _ HV4.out).mono ?_
  rintro en w5 ⟨rfl,hb5⟩
  have hb6:=hb5.alloc hb5.size (.cells #[.int .i64 N1,.int .i64 D1] 56)
  have HB6:=Lib.hid (HB4.out.trans (hb6.mono HB4.out.size))
  have HV6:=Lib.hid (HV4.out.keep hb6)
  have HW6:=Lib.hid (HW4.out.keep hb6 (Nat.le_refl _))
  have HR6:=Lib.hid (Ra.RateAt.mk w5 N1 D1 56)
  clear hb5 hb6 HF1 HB4 HV4 HW4
  go_wp2_with fail
  refine (HF2.out _ HV6.out).mono ?_
  rintro en w7 ⟨rfl,hb7⟩
  have hb8:=hb7.alloc hb7.size (.cells #[.int .i64 N2,.int .i64 D2] 56)
  have HB8:=Lib.hid (HB6.out.trans (hb8.mono HB6.out.size))
  have HW8:=Lib.hid (HW6.out.keep hb8 (Nat.le_refl _))
  have HR8:=Lib.hid (HR6.out.keep hb8 (Nat.le_refl _))
  obtain ⟨q0,q1⟩:=Ra.RateAt.mk w7 N2 D2 56
  obtain ⟨p0,p1⟩:=HR8.out
  obtain ⟨⟨c0,c1⟩,f0,f1⟩:=HW8.out
  clear hb7 hb8 HB6 HV6 HW6 HR6
  cases B2 with
  | true =>
    have HO:Hid (O=((N2,D2),0)):=Lib.hid (by rw [HOF.out];rfl)
    go_wp2
    exact bodyPost_ret (v:=.tuple #[.agg #[.int .i64 N2,.int .i64 D2],.int .i64 0]) (by simp [results,Tryz.results17,go_sem,c0,c1]) rfl ⟨by rw [HO.out],(HB8.out.setCell (p:=⟨w.heap.size+1,0,none⟩) (Nat.le_succ _) _).setCell (p:=⟨w.heap.size+1,1,none⟩) (Nat.le_succ _) _⟩
  | false =>
    cases B1 with
    | true =>
      have HO:Hid (O=((N1,D1),0)):=Lib.hid (by rw [HOF.out];rfl)
      go_wp2
      exact bodyPost_ret (v:=.tuple #[.agg #[.int .i64 N1,.int .i64 D1],.int .i64 0]) (by simp [results,Tryz.results17,go_sem,c0,c1]) rfl ⟨by rw [HO.out],(HB8.out.setCell (p:=⟨w.heap.size+1,0,none⟩) (Nat.le_succ _) _).setCell (p:=⟨w.heap.size+1,1,none⟩) (Nat.le_succ _) _⟩
    | false =>
      have HO:Hid (O=((0,0),10)):=Lib.hid (by rw [HOF.out];rfl)
      go_wp2
      exact bodyPost_ret (v:=.tuple #[.agg #[.int .i64 0,.int .i64 0],.int .i64 10]) (by simp [results,Tryz.results17,go_sem,c0,c1]) rfl ⟨by rw [HO.out],(HB8.out.setCell (p:=⟨w.heap.size+1,0,none⟩) (Nat.le_succ _) _).setCell (p:=⟨w.heap.size+1,1,none⟩) (Nat.le_succ _) _⟩
 ·have HF1:=Lib.hid (fun (W:World) (h:TabV W vl L)=>find_any vl L tAverage emp c W h hL.out)
  have HOF:Hid (O=match rateO L (tFlow,f,c) with
   | some r=>(r,0)
   | none=>match rateO L (tAverage,emp,c) with
     | some r=>(r,0)
     | none=>((0,0),10)):=Lib.hid (by rw [←HOO.out];unfold ofC;rw [HHF.out,HKD.out,if_neg (by simp),if_neg (by decide),if_neg ((Lib.bytes_beq_false_iff c M.cur).1 hc)];rfl)
  rw [fnd_rate,fnd_rate] at HOF
  obtain ⟨N1,hN1⟩:∃ N,fndN L (tAverage,emp,c)=N:=⟨_,rfl⟩
  obtain ⟨D1,hD1⟩:∃ D,fndD L (tAverage,emp,c)=D:=⟨_,rfl⟩
  obtain ⟨B1,hB1⟩:∃ B,fndB L (tAverage,emp,c)=B:=⟨_,rfl⟩
  simp only [hN1,hD1,hB1] at HF1
  rw [hN1,hD1,hB1,HFA.out.1,HFA.out.2.1,HFA.out.2.2] at HOF
  have hb4:=(Below.refl w3.heap.size w3).alloc (Nat.le_refl _) (.cells #[.string ⟨#[112,114,105,111,114]⟩,.string ⟨#[97,118,101,114,97,103,101]⟩,.string ⟨#[]⟩,.string ⟨#[97,118,101,114,97,103,101]⟩,.string ⟨#[99,108,111,115,101]⟩] 9)
  have HB4:=Lib.hid (HB3.out.trans (hb4.mono HB3.out.size))
  have HV4:=Lib.hid (HV3.out.keep hb4)
  have HW4:=Lib.hid (HW3.out.keep hb4 (Nat.le_refl _))
  have hq:(w3.alloc (.cells #[.string ⟨#[112,114,105,111,114]⟩,.string ⟨#[97,118,101,114,97,103,101]⟩,.string ⟨#[]⟩,.string ⟨#[97,118,101,114,97,103,101]⟩,.string ⟨#[99,108,111,115,101]⟩] 9)).cell? ⟨w3.heap.size,3,none⟩=some (.string ⟨#[97,118,101,114,97,103,101]⟩):=by rw [cell_of_row _ w3.heap.size 3 _ _ (0,0) (heap_alloc_new w3 _)];rfl
  clear hN1 hD1 hB1 hb4
  go_wp2_with fail
  clear k0 k1 k2 k3 k4 k5 k6 k7 k8 hq
  refine (HF1.out _ HV4.out).mono ?_
  rintro en w5 ⟨rfl,hb5⟩
  have hb6:=hb5.alloc hb5.size (.cells #[.int .i64 N1,.int .i64 D1] 56)
  have HB6:=Lib.hid (HB4.out.trans (hb6.mono HB4.out.size))
  have HV6:=Lib.hid (HV4.out.keep hb6)
  have HW6:=Lib.hid (HW4.out.keep hb6 (Nat.le_refl _))
  have HR6:=Lib.hid (Ra.RateAt.mk w5 N1 D1 56)
  clear hb5 hb6 HF1 HB4 HV4 HW4
  go_wp2_with fail
  refine (HF2.out _ HV6.out).mono ?_
  rintro en w7 ⟨rfl,hb7⟩
  have hb8:=hb7.alloc hb7.size (.cells #[.int .i64 N2,.int .i64 D2] 56)
  have HB8:=Lib.hid (HB6.out.trans (hb8.mono HB6.out.size))
  have HW8:=Lib.hid (HW6.out.keep hb8 (Nat.le_refl _))
  have HR8:=Lib.hid (HR6.out.keep hb8 (Nat.le_refl _))
  obtain ⟨q0,q1⟩:=Ra.RateAt.mk w7 N2 D2 56
  obtain ⟨p0,p1⟩:=HR8.out
  obtain ⟨⟨c0,c1⟩,f0,f1⟩:=HW8.out
  clear hb7 hb8 HB6 HV6 HW6 HR6
  cases B2 with
  | true =>
    have HO:Hid (O=((N2,D2),0)):=Lib.hid (by rw [HOF.out];rfl)
    go_wp2
    exact bodyPost_ret (v:=.tuple #[.agg #[.int .i64 N2,.int .i64 D2],.int .i64 0]) (by simp [results,Tryz.results17,go_sem,c0,c1]) rfl ⟨by rw [HO.out],(HB8.out.setCell (p:=⟨w.heap.size+1,0,none⟩) (Nat.le_succ _) _).setCell (p:=⟨w.heap.size+1,1,none⟩) (Nat.le_succ _) _⟩
  | false =>
    cases B1 with
    | true =>
      have HO:Hid (O=((N1,D1),0)):=Lib.hid (by rw [HOF.out];rfl)
      go_wp2
      exact bodyPost_ret (v:=.tuple #[.agg #[.int .i64 N1,.int .i64 D1],.int .i64 0]) (by simp [results,Tryz.results17,go_sem,c0,c1]) rfl ⟨by rw [HO.out],(HB8.out.setCell (p:=⟨w.heap.size+1,0,none⟩) (Nat.le_succ _) _).setCell (p:=⟨w.heap.size+1,1,none⟩) (Nat.le_succ _) _⟩
    | false =>
      have HO:Hid (O=((0,0),10)):=Lib.hid (by rw [HOF.out];rfl)
      go_wp2
      exact bodyPost_ret (v:=.tuple #[.agg #[.int .i64 0,.int .i64 0],.int .i64 10]) (by simp [results,Tryz.results17,go_sem,c0,c1]) rfl ⟨by rw [HO.out],(HB8.out.setCell (p:=⟨w.heap.size+1,0,none⟩) (Nat.le_succ _) _).setCell (p:=⟨w.heap.size+1,1,none⟩) (Nat.le_succ _) _⟩
 ·have HF1:=Lib.hid (fun (W:World) (h:TabV W vl L)=>find_any vl L tClose emp c W h hL.out)
  have HOF:Hid (O=match rateO L (tFlow,f,c) with
   | some r=>(r,0)
   | none=>match rateO L (tClose,emp,c) with
     | some r=>(r,0)
     | none=>((0,0),10)):=Lib.hid (by rw [←HOO.out];unfold ofC;rw [HHF.out,HKD.out,if_neg (by simp),if_neg (by decide),if_neg ((Lib.bytes_beq_false_iff c M.cur).1 hc)];rfl)
  rw [fnd_rate,fnd_rate] at HOF
  obtain ⟨N1,hN1⟩:∃ N,fndN L (tClose,emp,c)=N:=⟨_,rfl⟩
  obtain ⟨D1,hD1⟩:∃ D,fndD L (tClose,emp,c)=D:=⟨_,rfl⟩
  obtain ⟨B1,hB1⟩:∃ B,fndB L (tClose,emp,c)=B:=⟨_,rfl⟩
  simp only [hN1,hD1,hB1] at HF1
  rw [hN1,hD1,hB1,HFA.out.1,HFA.out.2.1,HFA.out.2.2] at HOF
  have hb4:=(Below.refl w3.heap.size w3).alloc (Nat.le_refl _) (.cells #[.string ⟨#[112,114,105,111,114]⟩,.string ⟨#[97,118,101,114,97,103,101]⟩,.string ⟨#[]⟩,.string ⟨#[97,118,101,114,97,103,101]⟩,.string ⟨#[99,108,111,115,101]⟩] 9)
  have HB4:=Lib.hid (HB3.out.trans (hb4.mono HB3.out.size))
  have HV4:=Lib.hid (HV3.out.keep hb4)
  have HW4:=Lib.hid (HW3.out.keep hb4 (Nat.le_refl _))
  have hq:(w3.alloc (.cells #[.string ⟨#[112,114,105,111,114]⟩,.string ⟨#[97,118,101,114,97,103,101]⟩,.string ⟨#[]⟩,.string ⟨#[97,118,101,114,97,103,101]⟩,.string ⟨#[99,108,111,115,101]⟩] 9)).cell? ⟨w3.heap.size,4,none⟩=some (.string ⟨#[99,108,111,115,101]⟩):=by rw [cell_of_row _ w3.heap.size 4 _ _ (0,0) (heap_alloc_new w3 _)];rfl
  clear hN1 hD1 hB1 hb4
  go_wp2_with fail
  clear k0 k1 k2 k3 k4 k5 k6 k7 k8 hq
  refine (HF1.out _ HV4.out).mono ?_
  rintro en w5 ⟨rfl,hb5⟩
  have hb6:=hb5.alloc hb5.size (.cells #[.int .i64 N1,.int .i64 D1] 56)
  have HB6:=Lib.hid (HB4.out.trans (hb6.mono HB4.out.size))
  have HV6:=Lib.hid (HV4.out.keep hb6)
  have HW6:=Lib.hid (HW4.out.keep hb6 (Nat.le_refl _))
  have HR6:=Lib.hid (Ra.RateAt.mk w5 N1 D1 56)
  clear hb5 hb6 HF1 HB4 HV4 HW4
  go_wp2_with fail
  refine (HF2.out _ HV6.out).mono ?_
  rintro en w7 ⟨rfl,hb7⟩
  have hb8:=hb7.alloc hb7.size (.cells #[.int .i64 N2,.int .i64 D2] 56)
  have HB8:=Lib.hid (HB6.out.trans (hb8.mono HB6.out.size))
  have HW8:=Lib.hid (HW6.out.keep hb8 (Nat.le_refl _))
  have HR8:=Lib.hid (HR6.out.keep hb8 (Nat.le_refl _))
  obtain ⟨q0,q1⟩:=Ra.RateAt.mk w7 N2 D2 56
  obtain ⟨p0,p1⟩:=HR8.out
  obtain ⟨⟨c0,c1⟩,f0,f1⟩:=HW8.out
  clear hb7 hb8 HB6 HV6 HW6 HR6
  cases B2 with
  | true =>
    have HO:Hid (O=((N2,D2),0)):=Lib.hid (by rw [HOF.out];rfl)
    go_wp2
    exact bodyPost_ret (v:=.tuple #[.agg #[.int .i64 N2,.int .i64 D2],.int .i64 0]) (by simp [results,Tryz.results17,go_sem,c0,c1]) rfl ⟨by rw [HO.out],(HB8.out.setCell (p:=⟨w.heap.size+1,0,none⟩) (Nat.le_succ _) _).setCell (p:=⟨w.heap.size+1,1,none⟩) (Nat.le_succ _) _⟩
  | false =>
    cases B1 with
    | true =>
      have HO:Hid (O=((N1,D1),0)):=Lib.hid (by rw [HOF.out];rfl)
      go_wp2
      exact bodyPost_ret (v:=.tuple #[.agg #[.int .i64 N1,.int .i64 D1],.int .i64 0]) (by simp [results,Tryz.results17,go_sem,c0,c1]) rfl ⟨by rw [HO.out],(HB8.out.setCell (p:=⟨w.heap.size+1,0,none⟩) (Nat.le_succ _) _).setCell (p:=⟨w.heap.size+1,1,none⟩) (Nat.le_succ _) _⟩
    | false =>
      have HO:Hid (O=((0,0),10)):=Lib.hid (by rw [HOF.out];rfl)
      go_wp2
      exact bodyPost_ret (v:=.tuple #[.agg #[.int .i64 0,.int .i64 0],.int .i64 10]) (by simp [results,Tryz.results17,go_sem,c0,c1]) rfl ⟨by rw [HO.out],(HB8.out.setCell (p:=⟨w.heap.size+1,0,none⟩) (Nat.le_succ _) _).setCell (p:=⟨w.heap.size+1,1,none⟩) (Nat.le_succ _) _⟩
end Go.Proofs.YthcpglnmhimepaaGreatDoor.Cs
end
section
namespace Go.Proofs.YthcpglnmhimepaaGreatDoor.Un
open Go.RowKit
theorem step_account {M:Mast} {ws:List ByteArray} (h0:wd ws 0=tAccount):stepE M ws=(if (parseA ws).2=0 then addE M.chart (parseA ws).1 else (parseA ws).2)∧stepV M ws={ M with chart:=insL M.chart (parseA ws).1 }:=by
 refine ⟨?_,?_⟩
 ·unfold stepE;rw [if_pos h0]
 ·unfold stepV;rw [if_pos h0]
theorem step_flow {M:Mast} {ws:List ByteArray} (h0:wd ws 0=Fl.tFlow):stepE M ws=(if (Fl.parseF ws).2=0 then Fl.addE M.flows (Fl.parseF ws).1 else (Fl.parseF ws).2)∧stepV M ws={ M with flows:=insK Fl.Flow.code M.flows (Fl.parseF ws).1 }:=by
 refine ⟨?_,?_⟩
 ·unfold stepE;rw [if_neg (by rw [h0];decide),if_pos h0]
 ·unfold stepV;rw [if_neg (by rw [h0];decide),if_pos h0]
set_option maxRecDepth 100000 in
set_option maxHeartbeats 16000000 in
theorem one_account (v c f e l:Value) (ws:List ByteArray) (M:Mast) (w:World) (hm:MastIn w c f e l M) (hs:Sane M) (hv:StrsV w v ws) (hx:ws[0]?=some tAccount) :
 Calls Tryz.prog 43 #[aggM c f e l M,v] w (OneTold w c f e l M ws):=by
 obtain ⟨pc,cc,ec,_⟩:=hm.chart
 subst ec
 have hlen:M.chart.length≤1000:=by have:=hs.lc;omega
 have HS:=Lib.hid (two_start w hm)
 have HPR:=Lib.hid (rparse_any v ws (two0 w (.slice pc M.chart.length cc) f e l M) (hv.keep HS.out.bel))
 have HM:=Lib.hid hm
 have HO:=Lib.hid (ones_of hm)
 obtain ⟨s1,s2⟩:=step_account (M:=M) (ws:=ws) (wd_of hx)
 obtain ⟨A,hA⟩:∃ A,(parseA ws).1=A:=⟨_,rfl⟩
 obtain ⟨n1,hn1⟩:∃ n,(parseA ws).2=n:=⟨_,rfl⟩
 rw [hA,hn1] at HPR s1
 rw [hA] at s2
 obtain ⟨n,hn⟩:∃ n,addE M.chart A=n:=⟨_,rfl⟩
 obtain ⟨R,hR⟩:∃ R,G.insR Acct.code M.chart A=R:=⟨_,rfl⟩
 rw [hn] at s1
 rw [insL_eqR,hR] at s2
 have HCA:=Lib.hid (fun W h=>rcadd_any (.slice pc M.chart.length cc) M.chart A W h hlen)
 rw [hn,hR] at HCA
 obtain ⟨N,hN⟩:∃ N,stepE M ws=N:=⟨_,rfl⟩
 have HNE:=Lib.hid s1
 have HV2:=Lib.hid s2
 rw [hN] at HNE
 unfold OneTold
 rw [hN]
 obtain ⟨p,cp,rfl,hcap,hml,hc⟩:=hv
 obtain ⟨g,o,rfl,x0⟩:=hc 0 tAccount hx
 rw [Nat.add_zero] at x0
 have y0:=cell_later HS.out.bel x0
 obtain ⟨nw,hnw⟩:∃ nw,ws.length=nw:=⟨_,rfl⟩
 have hw0:0 < nw:=by rw [←hnw];exact (List.getElem?_eq_some_iff.1 hx).1
 rw [hnw] at HPR hcap hml ⊢
 have gt:(tAccount.toList==[97,99,99,111,117,110,116])=true:=by rw [qAccount];decide
 clear hm hs hc hx hlen s1 s2 hA hn1 hn hR hN x0 hnw
 go_enter Tryz.func43,Tryz.ntmps43
 go_wp2_with fail
 refine HPR.out.mono ?_
 rintro en w1 ⟨rfl,hb1⟩
 have HS1:=Lib.hid (HS.out.below hb1)
 have HBA:=Lib.hid ((Below.refl w1.heap.size w1).alloc (Nat.le_refl _) (.cells (encA.cs zeroA).toArray 157))
 clear hb1 y0 gt
 by_cases h1:n1=0
 ·subst h1
  have HNN:Hid (N=n):=Lib.hid (by rw [HNE.out,if_pos rfl])
  go_wp2_with (refine wpList_store_acct rfl 157 (.tmp 6) (.tmp 22) rfl w1.heap.size zeroA A 157 rfl rfl (BoxA.new w1 zeroA _) (by kernel_rfl) ?_;intro w2 hb2 hg2;have HG2:Hid (Below w1.heap.size w1 w2):=Lib.hid (HBA.out.grown hg2 HBA.out.size (fun j hj=>by cases hj;exact Nat.le_refl _));have HX2:=Lib.hid hb2;clear hb2 hg2;have HS2:=Lib.hid (HS1.out.below HG2.out);have hk:=HS2.out.box.nine.c0;obtain ⟨q0,q1,q2,q3,q4,q5⟩:=HX2.out.facts)
  refine (HCA.out w2 (chart_els.1 HS2.out.mast.chart)).mono ?_
  rintro en w3 ⟨v3,rfl,ho3,hn3,hb3⟩
  obtain ⟨p3,m3,cp3,rfl⟩:=told_shape ho3 hn3
  have HO3:=Lib.hid ho3
  have HN3:=Lib.hid hn3
  have HS3:=Lib.hid (HS2.out.below hb3)
  have hB2:=HS2.out.bel.size
  have hk3:=HS3.out.box.nine.c0
  have hf3:=boxM_free HS3.out.box 0
  obtain ⟨W2,hW2⟩:∃ W2,w3.setCell ⟨w.heap.size,0,none⟩ (.slice p3 m3 cp3)=W2:=⟨_,rfl⟩
  have HG4:Hid (w3.grownBy W2 (some w.heap.size)):=Lib.hid (by rw [←hW2];exact set_grown w3 w.heap.size 0 (.slice p3 m3 cp3))
  have HW2:Hid (Below w.heap.size w W2):=Lib.hid (by rw [←hW2];exact set_below HS3.out.bel 0 _)
  obtain ⟨M2,hM2⟩:∃ M2:Mast,{ M with chart:=R }=M2:=⟨_,rfl⟩
  have HB2:Hid (BoxM W2 w.heap.size 36 (.slice p3 m3 cp3) f e l M2):=Lib.hid (by rw [←hW2,←hM2];exact box_set HS3.out.box rfl)
  have HR2:Hid (BoxM W2 (w.heap.size+1) 36 nil4 nil4 nil4 nil4 zeroM):=Lib.hid ((HG4.out.block _ HS3.out.res.lt (by simp)).trans HS3.out.res)
  have HM2:Hid (M2.flows=M.flows∧M2.ents=M.ents∧M2.lines=M.lines∧M2.chart=R):=Lib.hid (by rw [←hM2];exact ⟨rfl,rfl,rfl,rfl⟩)
  have HMM:=Lib.hid hM2
  have HO2:Hid (Ones (.slice p3 m3 cp3) f e l):=Lib.hid ⟨rfl,HO.out.f,HO.out.e,HO.out.l⟩
  clear ho3 hn3 hb3 hM2 hk q0 q1 q2 q3 q4 q5
  obtain ⟨k0,k1,k2,k3,k4,k5,k6,k7,k8⟩:=HB2.out.nine
  go_wp2_with (refine wpList_store_mast rfl 36 (.tmp 4) (.tmp 37) rfl (w.heap.size+1) nil4 nil4 nil4 nil4 (.slice p3 m3 cp3) f e l zeroM M2 36 rfl rfl HR2.out HO2.out (by kernel_rfl) ?_;intro w4 hb4 hg4)
  clear k0 k1 k2 k3 k4 k5 k6 k7 k8 hk3 hf3 hW2
  have HBG:=Lib.hid (HW2.out.grown hg4 HW2.out.size (fun j hj=>by cases hj;exact Nat.le_succ _))
  have HX4:Hid (n=0→ElsV encA w4 (.slice p3 m3 cp3) M2.chart):=Lib.hid (fun h0=>by
   obtain ⟨t,hr⟩:=HN3.out h0
   have h2:=(hr.kept HG4.out (.inr (fun e0=>by
    rcases hr.2 with ⟨e,_⟩ | ⟨g',_,_,e,hge,_⟩
    ·cases e;simp [Value.ownBlock] at e0
    ·cases e
     have h3:g'=w.heap.size:=by simpa [Value.ownBlock] using e0
     have:=HS2.out.box.lt
     omega))).kept hg4 (.inr (fun e0=>by
    rcases hr.2 with ⟨e,_⟩ | ⟨g',_,_,e,hge,_⟩
    ·cases e;simp [Value.ownBlock] at e0
    ·cases e
     have h3:g'=w.heap.size+1:=by simpa [Value.ownBlock] using e0
     have:=HS2.out.res.lt
     omega))
   rw [HM2.out.2.2.2]
   exact els_of_own h2)
  obtain ⟨c0,c1,c2,c3,c4,c5,c6,c7,c8⟩:=hb4.nine
  clear hb4 hg4
  refine bodyPost_ret (v:=.tuple #[aggM (.slice p3 m3 cp3) f e l M2,.int .i64 n]) (by simp [results,Tryz.results43,go_sem,c0,c1,c2,c3,c4,c5,c6,c7,c8]) rfl ⟨_,_,_,_,M2,by rw [HNN.out],fun h0=>⟨?_,?_⟩,HO2.out,⟨Off1.told HO3.out HN3.out HS2.out.bel.size,Off1.refl _ _,Off1.refl _ _,Off1.refl _ _⟩,HBG.out⟩
  ·rw [HV2.out];exact HMM.out.symm
  ·have hk:=HM.out.keep HBG.out
   obtain ⟨m1,m2,m3,_⟩:=HM2.out
   exact ⟨chart_els.2 (HX4.out (by rw [←HNN.out];exact h0)),by rw [m1];exact hk.flows,by rw [m2];exact hk.ents,by rw [m3];exact hk.lines⟩
 ·have HNN:Hid (N=n1):=Lib.hid (by rw [HNE.out,if_neg h1])
  have h1z:(n1 != 0)=true:=by simp [h1]
  go_wp2_with (first
   | (refine wpList_store_acct rfl 157 (.tmp 6) (.tmp 22) rfl w1.heap.size zeroA A 157 rfl rfl (BoxA.new w1 zeroA _) (by kernel_rfl) ?_;intro w2 hb2 hg2;have HG2:Hid (Below w1.heap.size w1 w2):=Lib.hid (HBA.out.grown hg2 HBA.out.size (fun j hj=>by cases hj;exact Nat.le_refl _));have HX2:=Lib.hid hb2;clear hb2 hg2;have HS2:=Lib.hid (HS1.out.below HG2.out);obtain ⟨k0,k1,k2,k3,k4,k5,k6,k7,k8⟩:=HS2.out.box.nine)
   | (refine wpList_store_mast rfl 36 (.tmp 4) (.tmp 26) rfl (w.heap.size+1) nil4 nil4 nil4 nil4 (.slice pc M.chart.length cc) f e l zeroM M 36 rfl rfl HS2.out.res HO.out (by kernel_rfl) ?_;intro w4 hb4 hg4)
   | fail)
  clear k0 k1 k2 k3 k4 k5 k6 k7 k8
  have HBG:=Lib.hid (HS2.out.bel.grown hg4 HS2.out.bel.size (fun j hj=>by cases hj;exact Nat.le_succ _))
  obtain ⟨c0,c1,c2,c3,c4,c5,c6,c7,c8⟩:=hb4.nine
  clear hb4 hg4
  exact bodyPost_ret (v:=.tuple #[aggM (.slice pc M.chart.length cc) f e l M,.int .i64 n1]) (by simp [results,Tryz.results43,go_sem,c0,c1,c2,c3,c4,c5,c6,c7,c8]) rfl ⟨_,_,_,_,M,by rw [HNN.out],(fun h=>absurd (HNN.out.symm.trans h) h1),HO.out,Off4.refl _ _ _ _ _,HBG.out⟩
set_option maxRecDepth 100000 in
set_option maxHeartbeats 16000000 in
theorem one_flow (v c f e l:Value) (ws:List ByteArray) (M:Mast) (w:World) (hm:MastIn w c f e l M) (hs:Sane M) (hv:StrsV w v ws) (hx:ws[0]?=some Fl.tFlow) :
 Calls Tryz.prog 43 #[aggM c f e l M,v] w (OneTold w c f e l M ws):=by
 obtain ⟨pf,cf,ef,_⟩:=hm.flows
 subst ef
 have hlen:M.flows.length≤1000:=by have:=hs.lf;omega
 have HS:=Lib.hid (two_start w hm)
 have HPR:=Lib.hid (Fl.rparse_any v ws (two0 w c (.slice pf M.flows.length cf) e l M) (hv.keep HS.out.bel))
 have HM:=Lib.hid hm
 have HO:=Lib.hid (ones_of hm)
 obtain ⟨s1,s2⟩:=step_flow (M:=M) (ws:=ws) (wd_of hx)
 obtain ⟨A,hA⟩:∃ A,(Fl.parseF ws).1=A:=⟨_,rfl⟩
 obtain ⟨n1,hn1⟩:∃ n,(Fl.parseF ws).2=n:=⟨_,rfl⟩
 rw [hA,hn1] at HPR s1
 rw [hA] at s2
 obtain ⟨n,hn⟩:∃ n,Fl.addE M.flows A=n:=⟨_,rfl⟩
 obtain ⟨R,hR⟩:∃ R,G.insR Fl.Flow.code M.flows A=R:=⟨_,rfl⟩
 rw [hn] at s1
 have hri:=Fl.rise_codes hs.fl
 have HIN:Hid (n=0→insK Fl.Flow.code M.flows A=R):=Lib.hid (fun h0=>by
  rw [←hn] at h0
  rw [insF_eqR hri (Fl.addE_zero hri h0).2.1,hR])
 have HCA:=Lib.hid (fun W h=>rfadd_any (.slice pf M.flows.length cf) M.flows A W h hri hlen)
 rw [hn,hR] at HCA
 obtain ⟨N,hN⟩:∃ N,stepE M ws=N:=⟨_,rfl⟩
 have HNE:=Lib.hid s1
 have HV2:=Lib.hid s2
 rw [hN] at HNE
 unfold OneTold
 rw [hN]
 obtain ⟨p,cp,rfl,hcap,hml,hc⟩:=hv
 obtain ⟨g,o,rfl,x0⟩:=hc 0 Fl.tFlow hx
 rw [Nat.add_zero] at x0
 have y0:=cell_later HS.out.bel x0
 obtain ⟨nw,hnw⟩:∃ nw,ws.length=nw:=⟨_,rfl⟩
 have hw0:0 < nw:=by rw [←hnw];exact (List.getElem?_eq_some_iff.1 hx).1
 rw [hnw] at HPR hcap hml ⊢
 have gt:(Fl.tFlow.toList==[102,108,111,119])=true:=by rw [qFlow];decide
 have g0:(Fl.tFlow.toList==[97,99,99,111,117,110,116])=false:=by rw [qAccount];decide
 clear hm hs hc hx hlen hri s1 s2 hA hn1 hn hR hN x0 hnw
 go_enter Tryz.func43,Tryz.ntmps43
 go_wp2_with fail
 refine HPR.out.mono ?_
 rintro en w1 ⟨rfl,hb1⟩
 have HS1:=Lib.hid (HS.out.below hb1)
 have HBA:=Lib.hid ((Below.refl w1.heap.size w1).alloc (Nat.le_refl _) (.cells (Fl.encF.cs Fl.zeroF).toArray 145))
 clear hb1 y0 gt g0
 by_cases h1:n1=0
 ·subst h1
  have HNN:Hid (N=n):=Lib.hid (by rw [HNE.out,if_pos rfl])
  go_wp2_with (refine wpList_store_el (E:=Fl.encF) rfl 145 (.tmp 10) (.tmp 44) rfl w1.heap.size Fl.zeroF A 145 rfl rfl (BoxE.new Fl.encF w1 Fl.zeroF _) (by kernel_rfl) ?_;intro w2 hb2 hg2;have HG2:Hid (Below w1.heap.size w1 w2):=Lib.hid (HBA.out.grown hg2 HBA.out.size (fun j hj=>by cases hj;exact Nat.le_refl _));have HX2:=Lib.hid hb2;clear hb2 hg2;have HS2:=Lib.hid (HS1.out.below HG2.out);have hk:=HS2.out.box.nine.c1;obtain ⟨q0,q1⟩:=Fl.two HX2.out.at0)
  refine (HCA.out w2 HS2.out.mast.flows).mono ?_
  rintro en w3 ⟨v3,rfl,ho3,hn3,hb3⟩
  obtain ⟨p3,m3,cp3,rfl⟩:=told_shape ho3 hn3
  have HO3:=Lib.hid ho3
  have HN3:=Lib.hid hn3
  have HS3:=Lib.hid (HS2.out.below hb3)
  have hB2:=HS2.out.bel.size
  have hk3:=HS3.out.box.nine.c1
  have hf3:=boxM_free HS3.out.box 1
  obtain ⟨W2,hW2⟩:∃ W2,w3.setCell ⟨w.heap.size,1,none⟩ (.slice p3 m3 cp3)=W2:=⟨_,rfl⟩
  have HG4:Hid (w3.grownBy W2 (some w.heap.size)):=Lib.hid (by rw [←hW2];exact set_grown w3 w.heap.size 1 (.slice p3 m3 cp3))
  have HW2:Hid (Below w.heap.size w W2):=Lib.hid (by rw [←hW2];exact set_below HS3.out.bel 1 _)
  obtain ⟨M2,hM2⟩:∃ M2:Mast,{ M with flows:=R }=M2:=⟨_,rfl⟩
  have HB2:Hid (BoxM W2 w.heap.size 36 c (.slice p3 m3 cp3) e l M2):=Lib.hid (by rw [←hW2,←hM2];exact box_set HS3.out.box rfl)
  have HR2:Hid (BoxM W2 (w.heap.size+1) 36 nil4 nil4 nil4 nil4 zeroM):=Lib.hid ((HG4.out.block _ HS3.out.res.lt (by simp)).trans HS3.out.res)
  have HM2:Hid (M2.chart=M.chart∧M2.ents=M.ents∧M2.lines=M.lines∧M2.flows=R):=Lib.hid (by rw [←hM2];exact ⟨rfl,rfl,rfl,rfl⟩)
  have HMM:=Lib.hid hM2
  have HO2:Hid (Ones c (.slice p3 m3 cp3) e l):=Lib.hid ⟨HO.out.c,rfl,HO.out.e,HO.out.l⟩
  clear ho3 hn3 hb3 hM2 hk q0 q1
  obtain ⟨k0,k1,k2,k3,k4,k5,k6,k7,k8⟩:=HB2.out.nine
  go_wp2_with (refine wpList_store_mast rfl 36 (.tmp 4) (.tmp 59) rfl (w.heap.size+1) nil4 nil4 nil4 nil4 c (.slice p3 m3 cp3) e l zeroM M2 36 rfl rfl HR2.out HO2.out (by kernel_rfl) ?_;intro w4 hb4 hg4)
  clear k0 k1 k2 k3 k4 k5 k6 k7 k8 hk3 hf3 hW2
  have HBG:=Lib.hid (HW2.out.grown hg4 HW2.out.size (fun j hj=>by cases hj;exact Nat.le_succ _))
  have HX4:Hid (n=0→ElsV Fl.encF w4 (.slice p3 m3 cp3) M2.flows):=Lib.hid (fun h0=>by
   obtain ⟨t,hr⟩:=HN3.out h0
   have h2:=(hr.kept HG4.out (.inr (fun e0=>by
    rcases hr.2 with ⟨e,_⟩ | ⟨g',_,_,e,hge,_⟩
    ·cases e;simp [Value.ownBlock] at e0
    ·cases e
     have h3:g'=w.heap.size:=by simpa [Value.ownBlock] using e0
     have:=HS2.out.box.lt
     omega))).kept hg4 (.inr (fun e0=>by
    rcases hr.2 with ⟨e,_⟩ | ⟨g',_,_,e,hge,_⟩
    ·cases e;simp [Value.ownBlock] at e0
    ·cases e
     have h3:g'=w.heap.size+1:=by simpa [Value.ownBlock] using e0
     have:=HS2.out.res.lt
     omega))
   rw [HM2.out.2.2.2]
   exact els_of_own h2)
  obtain ⟨c0,c1,c2,c3,c4,c5,c6,c7,c8⟩:=hb4.nine
  clear hb4 hg4
  refine bodyPost_ret (v:=.tuple #[aggM c (.slice p3 m3 cp3) e l M2,.int .i64 n]) (by simp [results,Tryz.results43,go_sem,c0,c1,c2,c3,c4,c5,c6,c7,c8]) rfl ⟨_,_,_,_,M2,by rw [HNN.out],fun h0=>⟨?_,?_⟩,HO2.out,⟨Off1.refl _ _,Off1.told HO3.out HN3.out HS2.out.bel.size,Off1.refl _ _,Off1.refl _ _⟩,HBG.out⟩
  ·rw [HV2.out,HIN.out (by rw [←HNN.out];exact h0)];exact HMM.out.symm
  ·have hk:=HM.out.keep HBG.out
   obtain ⟨m1,m2,m3,_⟩:=HM2.out
   exact ⟨by rw [m1];exact hk.chart,HX4.out (by rw [←HNN.out];exact h0),by rw [m2];exact hk.ents,by rw [m3];exact hk.lines⟩
 ·have HNN:Hid (N=n1):=Lib.hid (by rw [HNE.out,if_neg h1])
  have h1z:(n1 != 0)=true:=by simp [h1]
  go_wp2_with (first
   | (refine wpList_store_el (E:=Fl.encF) rfl 145 (.tmp 10) (.tmp 44) rfl w1.heap.size Fl.zeroF A 145 rfl rfl (BoxE.new Fl.encF w1 Fl.zeroF _) (by kernel_rfl) ?_;intro w2 hb2 hg2;have HG2:Hid (Below w1.heap.size w1 w2):=Lib.hid (HBA.out.grown hg2 HBA.out.size (fun j hj=>by cases hj;exact Nat.le_refl _));have HX2:=Lib.hid hb2;clear hb2 hg2;have HS2:=Lib.hid (HS1.out.below HG2.out);obtain ⟨k0,k1,k2,k3,k4,k5,k6,k7,k8⟩:=HS2.out.box.nine)
   | (refine wpList_store_mast rfl 36 (.tmp 4) (.tmp 48) rfl (w.heap.size+1) nil4 nil4 nil4 nil4 c (.slice pf M.flows.length cf) e l zeroM M 36 rfl rfl HS2.out.res HO.out (by kernel_rfl) ?_;intro w4 hb4 hg4)
   | fail)
  clear k0 k1 k2 k3 k4 k5 k6 k7 k8
  have HBG:=Lib.hid (HS2.out.bel.grown hg4 HS2.out.bel.size (fun j hj=>by cases hj;exact Nat.le_succ _))
  obtain ⟨c0,c1,c2,c3,c4,c5,c6,c7,c8⟩:=hb4.nine
  clear hb4 hg4
  exact bodyPost_ret (v:=.tuple #[aggM c (.slice pf M.flows.length cf) e l M,.int .i64 n1]) (by simp [results,Tryz.results43,go_sem,c0,c1,c2,c3,c4,c5,c6,c7,c8]) rfl ⟨_,_,_,_,M,by rw [HNN.out],(fun h=>absurd (HNN.out.symm.trans h) h1),HO.out,Off4.refl _ _ _ _ _,HBG.out⟩
set_option maxRecDepth 100000 in
set_option maxHeartbeats 16000000 in
theorem one_small (v c f e l:Value) (ws:List ByteArray) (M:Mast) (w:World) (hm:MastIn w c f e l M) (hs:Sane M) (hv:StrsV w v ws) (x0:ByteArray) (hx:ws[0]?=some x0) (hA:x0≠tAccount) (hF:x0≠Fl.tFlow) :
 Calls Tryz.prog 43 #[aggM c f e l M,v] w (OneTold w c f e l M ws):=by
 have HS:=Lib.hid (two_start w hm)
 have h0:0 < ws.length:=(List.getElem?_eq_some_iff.1 hx).1
 have HCA:=Lib.hid (rsmall_any v c f e l ws M (two0 w c f e l M) HS.out.mast hs (hv.keep HS.out.bel) h0 (by rw [wd_of hx];exact hA) (by rw [wd_of hx];exact hF))
 have HQ:=Lib.hid (off_of_mast (P:=fun b=>b≠w.heap.size+1) hm (fun b hb e0=>by omega))
 have hof0:∀ (c' f' e' l':Value),Off4 (two0 w c f e l M) c f e l c' f' e' l'→Off4 w c f e l c' f' e' l':=fun _ _ _ _ h=>by
  have hle:w.heap.size≤(two0 w c f e l M).heap.size:=HS.out.bel.size
  exact ⟨h.1.mono hle,h.2.1.mono hle,h.2.2.1.mono hle,h.2.2.2.mono hle⟩
 have HOM:=Lib.hid hof0
 have g0:=qAccount x0
 have g1:=qFlow x0
 rw [decide_eq_false hA] at g0
 rw [decide_eq_false hF] at g1
 obtain ⟨p,cp,rfl,hcap,hml,hc⟩:=hv
 obtain ⟨g,o,rfl,y0'⟩:=hc 0 x0 hx
 rw [Nat.add_zero] at y0'
 have y0:=cell_later HS.out.bel y0'
 obtain ⟨nw,hnw⟩:∃ nw,ws.length=nw:=⟨_,rfl⟩
 rw [hnw] at HCA hcap hml h0 ⊢
 clear hm hs hc hx hA hF y0' hnw hof0
 obtain ⟨k0,k1,k2,k3,k4,k5,k6,k7,k8⟩:=HS.out.box.nine
 go_enter Tryz.func43,Tryz.ntmps43
 go_wp2_with fail
 clear k0 k1 k2 k3 k4 k5 k6 k7 k8
 refine HCA.out.mono ?_
 rintro en w1 ⟨c',f',e',l',M',rfl,hz,ho,hof,hb1⟩
 have HS1:=Lib.hid (HS.out.below hb1)
 have HZ:=Lib.hid hz
 have HO:=Lib.hid ho
 have HOF:=Lib.hid hof
 obtain ⟨N,hN⟩:∃ N,stepE M ws=N:=⟨_,rfl⟩
 rw [hN]
 have HN:=Lib.hid hN
 clear hz ho hof hb1 hN y0 g0 g1
 go_wp2_with (refine wpList_store_mast rfl 36 (.tmp 4) (.tmp 64) rfl (w.heap.size+1) nil4 nil4 nil4 nil4 c' f' e' l' zeroM M' 36 rfl rfl HS1.out.res HO.out (by kernel_rfl) ?_;intro w4 hb4 hg4)
 have HBG:=Lib.hid (HS1.out.bel.grown hg4 HS1.out.bel.size (fun j hj=>by cases hj;exact Nat.le_succ _))
 have HX4:Hid (N=0→M'=stepV M ws∧MastIn w4 c' f' e' l' M'):=Lib.hid (fun h0=>by
  obtain ⟨h1,h2⟩:=HZ.out (by rw [HN.out];exact h0)
  obtain ⟨o0,o1,o2,o3⟩:=HOF.out
  have hsz:(two0 w c f e l M).heap.size=w.heap.size+2:=by simp [two0]
  have hP:∀ b,(two0 w c f e l M).heap.size≤b→b≠w.heap.size+1:=fun b hb e0=>by omega
  obtain ⟨p0,p1,p2,p3⟩:=HQ.out
  exact ⟨h1,mast_off h2 (o0 _ hP p0) (o1 _ hP p1) (o2 _ hP p2) (o3 _ hP p3) (fun b hb hlt=>hg4.block b hlt (fun e0=>hb (Option.some.inj e0)))⟩)
 obtain ⟨c0,c1,c2,c3,c4,c5,c6,c7,c8⟩:=hb4.nine
 clear hb4 hg4
 exact bodyPost_ret (v:=.tuple #[aggM c' f' e' l' M',.int .i64 N]) (by simp [results,Tryz.results43,go_sem,c0,c1,c2,c3,c4,c5,c6,c7,c8]) rfl ⟨_,_,_,_,M',by rw [HN.out],(fun h=>HX4.out (by rw [←HN.out];exact h)),HO.out,HOM.out _ _ _ _ HOF.out,HBG.out⟩
theorem rone_any (v c f e l:Value) (ws:List ByteArray) (M:Mast) (w:World) (hm:MastIn w c f e l M) (hs:Sane M) (hv:StrsV w v ws) (h0:0 < ws.length) :
 Calls Tryz.prog 43 #[aggM c f e l M,v] w (OneTold w c f e l M ws):=by
 obtain ⟨x0,hx⟩:∃ x,ws[0]?=some x:=⟨_,List.getElem?_eq_getElem h0⟩
 by_cases hA:x0=tAccount
 ·subst hA;exact one_account v c f e l ws M w hm hs hv hx
 ·by_cases hF:x0=Fl.tFlow
  ·subst hF;exact one_flow v c f e l ws M w hm hs hv hx
  ·exact one_small v c f e l ws M w hm hs hv x0 hx hA hF
end Go.Proofs.YthcpglnmhimepaaGreatDoor.Un
end
