/- PkDocCheck -/
import Derived.Test.YtdegffffcbhjbaaGreatDoorQ17
import Derived.Test.YtdegffffcbhjbaaGreatDoorQ20
namespace Go.Proofs.YtdegffffcbhjbaaGreatDoor.Pk
open Go.RowKit Go.Proofs.YtdegffffcbhjbaaGreatDoor.Un
set_option maxRecDepth 100000 in
set_option maxHeartbeats 16000000 in
theorem rcheck_any (c f e l:Value) (M:Mast) (x:Fa.Fact) (w:World) (h:MastIn w c f e l M) (hz:hasE M emp=false) :
 Calls Tryz.prog 19 #[aggM c f e l M,Fa.aggF x] w fun en w'=>en=.returned (.int .i64 (checkE M x.key))∧Below w.heap.size w w':=by
 obtain ⟨pc,cc,pf,cf,pe,ce,pl,cl,rfl,rfl,rfl,rfl⟩:=shapes h
 have hb1:=(Below.refl w.heap.size w).alloc (Nat.le_refl _) (.cells (cellsM (.slice pc M.chart.length cc) (.slice pf M.flows.length cf) (.slice pe M.ents.length ce) (.slice pl M.lines.length cl) M) 36)
 have hn1:=nine_new w (.slice pc M.chart.length cc) (.slice pf M.flows.length cf) (.slice pe M.ents.length ce) (.slice pl M.lines.length cl) M 36
 obtain ⟨W1,hW1⟩:∃ W1,w.alloc (.cells (cellsM (.slice pc M.chart.length cc) (.slice pf M.flows.length cf) (.slice pe M.ents.length ce) (.slice pl M.lines.length cl) M) 36)=W1:=⟨_,rfl⟩
 rw [hW1] at hb1 hn1
 have hb2:=(Below.refl W1.heap.size W1).alloc (Nat.le_refl _) (.cells (fCells x) 53)
 have hf2:=Fa.fact6 (el_new Fa.encF W1 x 53)
 obtain ⟨W2,hW2⟩:∃ W2,W1.alloc (.cells (fCells x) 53)=W2:=⟨_,rfl⟩
 rw [show (Fa.encF.cs x).toArray=fCells x from rfl,hW2] at hf2
 rw [hW2] at hb2
 have hb3:=(Below.refl W2.heap.size W2).alloc (Nat.le_refl _) (.cells (kCells x.key) 51)
 have hk3:=Fa.key5 (el_new Fa.encK W2 x.key 51)
 obtain ⟨W3,hW3⟩:∃ W3,W2.alloc (.cells (kCells x.key) 51)=W3:=⟨_,rfl⟩
 rw [show (Fa.encK.cs x.key).toArray=kCells x.key from rfl,hW3] at hk3
 rw [hW3] at hb3
 have hb13:Below W1.heap.size W1 W3:=hb2.trans (hb3.mono hb2.size)
 have hb03:Below w.heap.size w W3:=hb1.trans (hb13.mono hb1.size)
 have HB3:=Lib.hid hb03
 have HM3:=Lib.hid (h.keep hb03)
 have HN3:=Lib.hid (hn1.kept hb13)
 have HK3:Hid (ElAt Fa.encK W3 W2.heap.size 0 x.key):=Lib.hid (by rw [←hW3];exact el_new Fa.encK W2 x.key 51)
 have HCF:=Lib.hid (fun W h=>rcfind_any (.slice pc M.chart.length cc) M.chart x.key.a W h)
 have HFK:=Lib.hid (fun W h=>rkind_any (.slice pf M.flows.length cf) M.flows x.key.f W h)
 have HEE:=Lib.hid (fun W h=>rfind_any (.slice pc M.chart.length cc) (.slice pf M.flows.length cf) (.slice pe M.ents.length ce) (.slice pl M.lines.length cl) M x.key.e W h)
 have HEP:=Lib.hid (fun W h=>rfind_any (.slice pc M.chart.length cc) (.slice pf M.flows.length cf) (.slice pe M.ents.length ce) (.slice pl M.lines.length cl) M x.key.p W h)
 have hEIe:∀ y,hasE M y=(G.findK Ent.code M.ents y).isSome:=fun _=>rfl
 have hAIe:hasA M.chart x.key.a=(findL M.chart x.key.a).isSome:=rfl
 have hFIe:hasFl M x.key.f=(Fl.findF M.flows x.key.f).isSome:=rfl
 obtain ⟨C1,hC1⟩:∃ C,curO (G.findK Ent.code M.ents x.key.e)=C:=⟨_,rfl⟩
 obtain ⟨C2,hC2⟩:∃ C,curO (G.findK Ent.code M.ents x.key.p)=C:=⟨_,rfl⟩
 obtain ⟨A,hA⟩:∃ A,findV (findL M.chart x.key.a)=A:=⟨_,rfl⟩
 obtain ⟨AI,hAI⟩:∃ I,(findL M.chart x.key.a).isSome=I:=⟨_,rfl⟩
 obtain ⟨K,hK⟩:∃ K,kindO' (Fl.findF M.flows x.key.f)=K:=⟨_,rfl⟩
 obtain ⟨FI,hFI⟩:∃ I,(Fl.findF M.flows x.key.f).isSome=I:=⟨_,rfl⟩
 obtain ⟨EI,hEI⟩:∃ I,(G.findK Ent.code M.ents x.key.e).isSome=I:=⟨_,rfl⟩
 obtain ⟨PI,hPI⟩:∃ I,(G.findK Ent.code M.ents x.key.p).isSome=I:=⟨_,rfl⟩
 obtain ⟨P,hP⟩:∃ P,isP x.key=P:=⟨_,rfl⟩
 have hne:=isP_ne x.key
 rw [hP] at hne
 have HPE:Hid (EI=true→P=false→(x.key.p.toList==x.key.e.toList)=false):=Lib.hid (fun h1 h2=>by
  refine (Lib.bytes_beq_false_iff _ _).2 fun e=>?_
  have h3:x.key.p=emp:=by
   rw [←hP] at h2
   unfold isP at h2
   simpa using h2
  rw [h3] at e
  rw [←e,←hEIe,hz] at hEI
  rw [←hEI] at h1;cases h1)
 simp only [hA,hAI] at HCF
 simp only [hK,hFI] at HFK
 simp only [hC1,hEI] at HEE
 simp only [hC2,hPI] at HEP
 have HIN:Hid (inM M x.key=(EI && AI && FI && (!P || PI))):=Lib.hid (by
  unfold inM
  rw [hEIe,hEIe,hAIe,hFIe,hEI,hAI,hFI,hP,hPI])
 have HMU:Hid (mutA M x.key.a=A.both):=Lib.hid (by rw [←hA];rfl)
 have HKF:Hid (kindF M x.key.f=K):=Lib.hid (by rw [←hK];rfl)
 have HPP:=Lib.hid hP
 obtain ⟨N,hN⟩:∃ N,checkE M x.key=N:=⟨_,rfl⟩
 rw [hN]
 have HN:=Lib.hid hN
 clear hA hAI hK hFI hEI hPI hP hN hb1 hb2 hb3 hb13 hb03 h hn1 hC1 hC2 hEIe hAIe hFIe hz
 obtain ⟨k0,k1,k2,k3,k4,k5,k6,k7,k8⟩:=HN3.out
 obtain ⟨f0,f1,f2,f3,f4,f5⟩:=hf2
 obtain ⟨y0,y1,y2,y3,y4⟩:=hk3
 simp only [Nat.zero_add] at f0 f1 f2 f3 f4 f5 y0 y1 y2 y3 y4
 go_enter Tryz.func19,Tryz.ntmps19
 go_wp2_with fail
 clear k0 k1 k2 k3 k4 k5 k6 k7 k8 f0 f1 f2 f3 f4 f5 y0 y1 y2 y3 y4 hW1 hW2 hW3
 refine (HEE.out _ HM3.out).mono ?_
 rintro en w4 ⟨rfl,hb4⟩
 have HB4:=Lib.hid (HB3.out.trans (hb4.mono HB3.out.size))
 have HM4:=Lib.hid (HM3.out.keep hb4)
 have HN4:=Lib.hid (HN3.out.kept hb4)
 have HK4:=Lib.hid (HK3.out.keep hb4 HK3.out.lt)
 clear hb4 HB3 HM3 HN3 HK3 HEE
 obtain ⟨k0,k1,k2,k3,k4,k5,k6,k7,k8⟩:=HN4.out
 obtain ⟨y0,y1,y2,y3,y4⟩:=Fa.key5 HK4.out
 simp only [Nat.zero_add] at y0 y1 y2 y3 y4
 go_wp2_with fail
 clear k0 k1 k2 k3 k4 k5 k6 k7 k8 y0 y1 y2 y3 y4
 refine (HCF.out _ HM4.out.chart).mono ?_
 rintro en w5 ⟨rfl,hb5⟩
 have hb6:=hb5.alloc hb5.size (.cells #[.string A.code,.int .i64 A.cls,.bool A.cash,.bool A.both,.string A.fixed,.bool A.worn] 107)
 have HB6:=Lib.hid (HB4.out.trans (hb6.mono HB4.out.size))
 have HM6:=Lib.hid (HM4.out.keep hb6)
 have HN6:=Lib.hid (HN4.out.kept hb6)
 have HK6:=Lib.hid (HK4.out.keep hb6 HK4.out.lt)
 have HA6:=Lib.hid (BoxA.new w5 A 107)
 clear hb5 hb6 HB4 HM4 HN4 HK4 HCF
 obtain ⟨k0,k1,k2,k3,k4,k5,k6,k7,k8⟩:=HN6.out
 obtain ⟨y0,y1,y2,y3,y4⟩:=Fa.key5 HK6.out
 simp only [Nat.zero_add] at y0 y1 y2 y3 y4
 go_wp2_with fail
 clear k0 k1 k2 k3 k4 k5 k6 k7 k8 y0 y1 y2 y3 y4
 refine (HFK.out _ HM6.out.flows).mono ?_
 rintro en w7 ⟨rfl,hb7⟩
 have HB7:=Lib.hid (HB6.out.trans (hb7.mono HB6.out.size))
 have HM7:=Lib.hid (HM6.out.keep hb7)
 have HN7:=Lib.hid (HN6.out.kept hb7)
 have HK7:=Lib.hid (HK6.out.keep hb7 HK6.out.lt)
 have HA7:=Lib.hid (HA6.out.keep hb7 (Array.getElem?_eq_some_iff.1 HA6.out).1)
 clear hb7 HB6 HM6 HN6 HK6 HA6 HFK
 obtain ⟨k0,k1,k2,k3,k4,k5,k6,k7,k8⟩:=HN7.out
 obtain ⟨y0,y1,y2,y3,y4⟩:=Fa.key5 HK7.out
 simp only [Nat.zero_add] at y0 y1 y2 y3 y4
 go_wp2_with fail
 clear k0 k1 k2 k3 k4 k5 k6 k7 k8 y0 y1 y2 y3 y4
 refine (HEP.out _ HM7.out).mono ?_
 rintro en w8 ⟨rfl,hb8⟩
 have HB8:=Lib.hid (HB7.out.trans (hb8.mono HB7.out.size))
 have HK8:=Lib.hid (HK7.out.keep hb8 HK7.out.lt)
 have HA8:=Lib.hid (HA7.out.keep hb8 (Array.getElem?_eq_some_iff.1 HA7.out).1)
 clear hb8 HB7 HM7 HN7 HK7 HA7 HEP
 obtain ⟨y0,y1,y2,y3,y4⟩:=Fa.key5 HK8.out
 simp only [Nat.zero_add] at y0 y1 y2 y3 y4
 obtain ⟨z0,z1,z2,z3,z4,z5⟩:=HA8.out.facts
 cases EI with
 | false =>
   have HNN:Hid (N=6):=Lib.hid (by rw [←HN.out];exact checkE_no (by rw [HIN.out];rfl))
   go_wp2
   go_ret
   exact ⟨by rw [HNN.out];rfl,HB8.out⟩
 | true =>
 cases AI with
 | false =>
   have HNN:Hid (N=6):=Lib.hid (by rw [←HN.out];exact checkE_no (by rw [HIN.out];rfl))
   go_wp2
   go_ret
   exact ⟨by rw [HNN.out];rfl,HB8.out⟩
 | true =>
 cases FI with
 | false =>
   have HNN:Hid (N=6):=Lib.hid (by rw [←HN.out];exact checkE_no (by rw [HIN.out];rfl))
   go_wp2
   go_ret
   exact ⟨by rw [HNN.out];rfl,HB8.out⟩
 | true =>
 cases P with
 | false =>
   have hq:(!x.key.p.toList.isEmpty)=false:=hne.symm
   have hq2:x.key.p.toList.isEmpty=true:=by simpa using hne.symm
   have hpe:=HPE.out rfl rfl
   have HINT:Hid (inM M x.key=true):=Lib.hid (by rw [HIN.out];rfl)
   have HARG:Hid ((isP x.key && decide (x.key.p=x.key.e))=false):=Lib.hid (by rw [HPP.out];rfl)
   clear hne
   cases hB:A.both with
   | true =>
     have HNN:Hid (N=15):=Lib.hid (by rw [←HN.out];exact checkE_cls HINT.out HARG.out (by rw [HPP.out,HMU.out,hB];simp))
     rw [hB] at z3
     clear hB
     go_wp2
     go_ret
     exact ⟨by rw [HNN.out];rfl,HB8.out⟩
   | false =>
     have HNE:Hid (N=if K=2 then 8 else 0):=Lib.hid (by rw [←HN.out,←HKF.out];exact checkE_end HINT.out HARG.out (by rw [HPP.out,HMU.out,hB]))
     rw [hB] at z3
     clear hB
     by_cases hK2:K=2
     ·subst hK2
      go_wp2
      go_ret
      exact ⟨by rw [HNE.out];rfl,HB8.out⟩
     ·have HNN:Hid (N=0):=Lib.hid (by rw [HNE.out,if_neg hK2])
      have hk2:(K==2)=false:=by simpa using hK2
      clear hK2
      go_wp2
      go_ret
      exact ⟨by rw [HNN.out];rfl,HB8.out⟩
 | true =>
   have hq:(!x.key.p.toList.isEmpty)=true:=hne.symm
   have hq2:x.key.p.toList.isEmpty=false:=by simpa using hne.symm
   clear hne
   cases PI with
   | false =>
     have HNN:Hid (N=6):=Lib.hid (by rw [←HN.out];exact checkE_no (by rw [HIN.out];rfl))
     go_wp2
     go_ret
     exact ⟨by rw [HNN.out];rfl,HB8.out⟩
   | true =>
   have HINT:Hid (inM M x.key=true):=Lib.hid (by rw [HIN.out];rfl)
   cases hpe:(x.key.p.toList==x.key.e.toList) with
   | true =>
     have HNN:Hid (N=1):=Lib.hid (by
      rw [←HN.out]
      exact checkE_arg HINT.out (by rw [HPP.out,(Lib.bytes_beq_iff _ _).1 hpe];simp))
     go_wp2
     go_ret
     exact ⟨by rw [HNN.out];rfl,HB8.out⟩
   | false =>
   have HARG:Hid ((isP x.key && decide (x.key.p=x.key.e))=false):=Lib.hid (by rw [HPP.out,Bool.true_and];exact decide_eq_false ((Lib.bytes_beq_false_iff _ _).1 hpe))
   cases hB:A.both with
   | false =>
     have HNN:Hid (N=15):=Lib.hid (by rw [←HN.out];exact checkE_cls HINT.out HARG.out (by rw [HPP.out,HMU.out,hB];simp))
     rw [hB] at z3
     clear hB
     go_wp2
     go_ret
     exact ⟨by rw [HNN.out];rfl,HB8.out⟩
   | true =>
     have HNE:Hid (N=if K=2 then 8 else 0):=Lib.hid (by rw [←HN.out,←HKF.out];exact checkE_end HINT.out HARG.out (by rw [HPP.out,HMU.out,hB]))
     rw [hB] at z3
     clear hB
     by_cases hK2:K=2
     ·subst hK2
      go_wp2
      go_ret
      exact ⟨by rw [HNE.out];rfl,HB8.out⟩
     ·have HNN:Hid (N=0):=Lib.hid (by rw [HNE.out,if_neg hK2])
      have hk2:(K==2)=false:=by simpa using hK2
      clear hK2
      go_wp2
      go_ret
      exact ⟨by rw [HNN.out];rfl,HB8.out⟩
end Go.Proofs.YtdegffffcbhjbaaGreatDoor.Pk
