/- PkCheck PkReader PkRead1 PkRead2 -/
import Derived.Deep.RegionWith
import Derived.Test.YtfhhihamndbcnaaGreatDoorR12
import Derived.Test.YtfhhihamndbcnaaGreatDoorR30
import Derived.Test.YtfhhihamndbcnaaGreatDoorR31
import Derived.Test.YtfhhihamndbcnaaGreatDoorR32
import Derived.Test.YtfhhihamndbcnaaGreatDoorR33
section
namespace Go.Proofs.YtfhhihamndbcnaaGreatDoor.Pk
open Go.RowKit Go.Proofs.YtfhhihamndbcnaaGreatDoor.Un
theorem shapes {w:World} {c f e l:Value} {M:Mast} (h:MastIn w c f e l M):∃ pc cc pf cf pe ce pl cl,c=.slice pc M.chart.length cc∧f=.slice pf M.flows.length cf∧e=.slice pe M.ents.length ce∧l=.slice pl M.lines.length cl:=by
 obtain ⟨p0,k0,e0,_⟩:=h.chart
 obtain ⟨p1,k1,e1,_⟩:=h.flows
 obtain ⟨p2,k2,e2,_⟩:=h.ents
 obtain ⟨p3,k3,e3,_⟩:=h.lines
 exact ⟨_,_,_,_,_,_,_,_,e0,e1,e2,e3⟩
theorem isP_ne (k:Fa.Key):isP k=(!k.p.toList.isEmpty):=by
 have h:=neB_iff k.p
 show isP k=neB k.p
 unfold isP
 rw [Bool.eq_iff_iff,decide_eq_true_eq]
 exact h.symm
set_option maxRecDepth 100000 in
set_option maxHeartbeats 4000000 in
theorem isEntity_any (c f e l:Value) (M:Mast) (code:ByteArray) (w:World) (h:MastIn w c f e l M) :
 Calls Tryz.prog 162 #[aggM c f e l M,.string code] w fun en w'=>en=.returned (.bool (hasE M code))∧Below w.heap.size w w':=by
 obtain ⟨pc,cc,pf,cf,pe,ce,pl,cl,rfl,rfl,rfl,rfl⟩:=shapes h
 have hb:=(Below.refl w.heap.size w).alloc (Nat.le_refl _) (.cells (cellsM (.slice pc M.chart.length cc) (.slice pf M.flows.length cf) (.slice pe M.ents.length ce) (.slice pl M.lines.length cl) M) 31)
 have HB:=Lib.hid hb
 have HM:=Lib.hid (h.keep hb)
 have HN:=Lib.hid (nine_new w (.slice pc M.chart.length cc) (.slice pf M.flows.length cf) (.slice pe M.ents.length ce) (.slice pl M.lines.length cl) M 31)
 obtain ⟨C,hC⟩:∃ C,curO (G.findK Ent.code M.ents code)=C:=⟨_,rfl⟩
 obtain ⟨I,hI⟩:∃ I,(G.findK Ent.code M.ents code).isSome=I:=⟨_,rfl⟩
 have hI2:hasE M code=I:=hI
 have HF:=Lib.hid (fun W h=>Un.find_any (.slice pc M.chart.length cc) (.slice pf M.flows.length cf) (.slice pe M.ents.length ce) (.slice pl M.lines.length cl) M code W h)
 simp only [hC,hI] at HF
 rw [hI2]
 clear hC hI hI2 hb h
 obtain ⟨k0,k1,k2,k3,k4,k5,k6,k7,k8⟩:=HN.out
 go_enter Tryz.func162,Tryz.ntmps162
 go_wp2_with fail
 clear k0 k1 k2 k3 k4 k5 k6 k7 k8
 refine (HF.out _ HM.out).mono ?_
 rintro en w2 ⟨rfl,hb2⟩
 have HB2:=Lib.hid (HB.out.trans (hb2.mono HB.out.size))
 clear hb2
 go_wp2
 go_ret
 exact ⟨rfl,HB2.out⟩
abbrev kCells (k:Fa.Key):Array Value:=#[.string k.e,.string k.a,.string k.f,.string k.p,.int .i64 k.m]
abbrev fCells (x:Fa.Fact):Array Value:=#[.string x.key.e,.string x.key.a,.string x.key.f,.string x.key.p,.int .i64 x.key.m,.int .i64 x.amt]
theorem kind_of_find {L:List Fl.Flow} (hr:riseK Fl.Flow.code L=true) (c:ByteArray):Fl.kindL L c=((Fl.findF L c).getD Fl.zeroF).kind:=by
 unfold Fl.kindL
 obtain ⟨h1,h2⟩:=isK_find hr c
 cases hi:isK Fl.Flow.code L c with
 | true=>rw [if_pos rfl,h2 hi]
 | false =>
   rw [hi] at h1
   rw [if_neg (by simp)]
   unfold Fl.findF
   cases hf:findK Fl.Flow.code L c with
   | none=>rfl
   | some y=>rw [hf] at h1;cases h1
theorem checkE_no {M:Mast} {k:Fa.Key} (h:inM M k=false):checkE M k=6:=by unfold checkE;rw [if_pos h]
theorem checkE_arg {M:Mast} {k:Fa.Key} (h:inM M k=true) (h1:(isP k && decide (k.p=k.e))=true):checkE M k=1:=by unfold checkE;rw [if_neg (by rw [h];simp),if_pos h1]
theorem checkE_cls {M:Mast} {k:Fa.Key} (h:inM M k=true) (h1:(isP k && decide (k.p=k.e))=false) (h2:isP k≠mutA M k.a):checkE M k=15:=by unfold checkE;rw [if_neg (by rw [h];simp),if_neg (by rw [h1];simp),if_pos h2]
theorem checkE_end {M:Mast} {k:Fa.Key} (h:inM M k=true) (h1:(isP k && decide (k.p=k.e))=false) (h2:isP k=mutA M k.a):checkE M k=if kindF M k.f=2 then 8 else 0:=by unfold checkE;rw [if_neg (by rw [h];simp),if_neg (by rw [h1];simp),if_neg (by simp [h2])]
set_option maxRecDepth 100000 in
set_option maxHeartbeats 16000000 in
theorem check_any (c f e l:Value) (M:Mast) (x:Fa.Fact) (w:World) (h:MastIn w c f e l M) (hr:riseK Fl.Flow.code M.flows=true) (hlf:M.flows.length≤1000) :
 Calls Tryz.prog 136 #[aggM c f e l M,Fa.aggF x] w fun en w'=>en=.returned (.int .i64 (checkE M x.key))∧Below w.heap.size w w':=by
 obtain ⟨pc,cc,pf,cf,pe,ce,pl,cl,rfl,rfl,rfl,rfl⟩:=shapes h
 have hb1:=(Below.refl w.heap.size w).alloc (Nat.le_refl _) (.cells (cellsM (.slice pc M.chart.length cc) (.slice pf M.flows.length cf) (.slice pe M.ents.length ce) (.slice pl M.lines.length cl) M) 31)
 have hn1:=nine_new w (.slice pc M.chart.length cc) (.slice pf M.flows.length cf) (.slice pe M.ents.length ce) (.slice pl M.lines.length cl) M 31
 obtain ⟨W1,hW1⟩:∃ W1,w.alloc (.cells (cellsM (.slice pc M.chart.length cc) (.slice pf M.flows.length cf) (.slice pe M.ents.length ce) (.slice pl M.lines.length cl) M) 31)=W1:=⟨_,rfl⟩
 rw [hW1] at hb1 hn1
 have hb2:=(Below.refl W1.heap.size W1).alloc (Nat.le_refl _) (.cells (fCells x) 62)
 have hf2:=Fa.fact6 (el_new Fa.encF W1 x 62)
 obtain ⟨W2,hW2⟩:∃ W2,W1.alloc (.cells (fCells x) 62)=W2:=⟨_,rfl⟩
 rw [show (Fa.encF.cs x).toArray=fCells x from rfl,hW2] at hf2
 rw [hW2] at hb2
 have hb3:=(Below.refl W2.heap.size W2).alloc (Nat.le_refl _) (.cells (kCells x.key) 60)
 have hk3:=Fa.key5 (el_new Fa.encK W2 x.key 60)
 obtain ⟨W3,hW3⟩:∃ W3,W2.alloc (.cells (kCells x.key) 60)=W3:=⟨_,rfl⟩
 rw [show (Fa.encK.cs x.key).toArray=kCells x.key from rfl,hW3] at hk3
 rw [hW3] at hb3
 have hb13:Below W1.heap.size W1 W3:=hb2.trans (hb3.mono hb2.size)
 have hb03:Below w.heap.size w W3:=hb1.trans (hb13.mono hb1.size)
 have HB3:=Lib.hid hb03
 have HM3:=Lib.hid (h.keep hb03)
 have HN3:=Lib.hid (hn1.kept hb13)
 have HK3:Hid (ElAt Fa.encK W3 W2.heap.size 0 x.key):=Lib.hid (by rw [←hW3];exact el_new Fa.encK W2 x.key 60)
 have HR:=Lib.hid hr
 have HCF:=Lib.hid (fun W h=>find_any (.slice pc M.chart.length cc) M.chart x.key.a W h)
 have HFK:=Lib.hid (fun W h=>Fl.kind_any (.slice pf M.flows.length cf) M.flows x.key.f W h hr hlf)
 have HEE:=Lib.hid (fun W h=>isEntity_any (.slice pc M.chart.length cc) (.slice pf M.flows.length cf) (.slice pe M.ents.length ce) (.slice pl M.lines.length cl) M x.key.e W h)
 have HEP:=Lib.hid (fun W h=>isEntity_any (.slice pc M.chart.length cc) (.slice pf M.flows.length cf) (.slice pe M.ents.length ce) (.slice pl M.lines.length cl) M x.key.p W h)
 have HCK:Hid (checkE M x.key=checkE M x.key):=Lib.hid rfl
 obtain ⟨A,hA⟩:∃ A,findV (findL M.chart x.key.a)=A:=⟨_,rfl⟩
 obtain ⟨AI,hAI⟩:∃ I,(findL M.chart x.key.a).isSome=I:=⟨_,rfl⟩
 obtain ⟨K,hK⟩:∃ K,Fl.kindL M.flows x.key.f=K:=⟨_,rfl⟩
 obtain ⟨FI,hFI⟩:∃ I,isK Fl.Flow.code M.flows x.key.f=I:=⟨_,rfl⟩
 obtain ⟨EI,hEI⟩:∃ I,hasE M x.key.e=I:=⟨_,rfl⟩
 obtain ⟨PI,hPI⟩:∃ I,hasE M x.key.p=I:=⟨_,rfl⟩
 obtain ⟨P,hP⟩:∃ P,isP x.key=P:=⟨_,rfl⟩
 have hne:=isP_ne x.key
 rw [hP] at hne
 simp only [hA,hAI] at HCF
 simp only [hK,hFI] at HFK
 simp only [hEI] at HEE
 simp only [hPI] at HEP
 have HIN:Hid (inM M x.key=(EI && AI && FI && (!P || PI))):=Lib.hid (by
  unfold inM hasA hasFl
  rw [hEI,hAI,hP,hPI,←(isK_find hr x.key.f).1,hFI])
 have HMU:Hid (mutA M x.key.a=A.both):=Lib.hid (by rw [←hA];rfl)
 have HKF:Hid (kindF M x.key.f=K):=Lib.hid (by rw [←hK,kind_of_find hr];rfl)
 have HPP:=Lib.hid hP
 obtain ⟨N,hN⟩:∃ N,checkE M x.key=N:=⟨_,rfl⟩
 rw [hN]
 have HN:=Lib.hid hN
 clear hA hAI hK hFI hEI hPI hP hN hr hlf hb1 hb2 hb3 hb13 hb03 h hn1 HCK
 obtain ⟨k0,k1,k2,k3,k4,k5,k6,k7,k8⟩:=HN3.out
 obtain ⟨f0,f1,f2,f3,f4,f5⟩:=hf2
 obtain ⟨y0,y1,y2,y3,y4⟩:=hk3
 simp only [Nat.zero_add] at f0 f1 f2 f3 f4 f5 y0 y1 y2 y3 y4
 go_enter Tryz.func136,Tryz.ntmps136
 go_wp2_with fail
 clear k0 k1 k2 k3 k4 k5 k6 k7 k8 f0 f1 f2 f3 f4 f5 y0 y1 y2 y3 y4 hW1 hW2 hW3
 refine (HCF.out _ HM3.out.chart).mono ?_
 rintro en w4 ⟨rfl,hb4⟩
 have hb5:=hb4.alloc hb4.size (.cells #[.string A.code,.int .i64 A.cls,.bool A.cash,.bool A.both,.string A.fixed,.bool A.worn] 199)
 have HB5:=Lib.hid (HB3.out.trans (hb5.mono HB3.out.size))
 have HM5:=Lib.hid (HM3.out.keep hb5)
 have HN5:=Lib.hid (HN3.out.kept hb5)
 have HK5:=Lib.hid (HK3.out.keep hb5 HK3.out.lt)
 have HA5:=Lib.hid (BoxA.new w4 A 199)
 clear hb4 hb5 HB3 HM3 HN3 HK3 HCF
 obtain ⟨k0,k1,k2,k3,k4,k5,k6,k7,k8⟩:=HN5.out
 obtain ⟨y0,y1,y2,y3,y4⟩:=Fa.key5 HK5.out
 simp only [Nat.zero_add] at y0 y1 y2 y3 y4
 go_wp2_with fail
 clear k0 k1 k2 k3 k4 k5 k6 k7 k8 y0 y1 y2 y3 y4
 refine (HFK.out _ HM5.out.flows).mono ?_
 rintro en w6 ⟨rfl,hb6⟩
 have HB6:=Lib.hid (HB5.out.trans (hb6.mono HB5.out.size))
 have HM6:=Lib.hid (HM5.out.keep hb6)
 have HN6:=Lib.hid (HN5.out.kept hb6)
 have HK6:=Lib.hid (HK5.out.keep hb6 HK5.out.lt)
 have HA6:=Lib.hid (HA5.out.keep hb6 (Array.getElem?_eq_some_iff.1 HA5.out).1)
 clear hb6 HB5 HM5 HN5 HK5 HA5 HFK
 obtain ⟨k0,k1,k2,k3,k4,k5,k6,k7,k8⟩:=HN6.out
 obtain ⟨y0,y1,y2,y3,y4⟩:=Fa.key5 HK6.out
 simp only [Nat.zero_add] at y0 y1 y2 y3 y4
 have hq0:=hne.symm
 clear hne
 cases P with
 | false =>
   have hq:(!x.key.p.toList.isEmpty)=false:=hq0
   have hq2:x.key.p.toList.isEmpty=true:=by simpa using hq0
   clear hq0
   go_wp2_with fail
   clear k0 k1 k2 k3 k4 k5 k6 k7 k8 y0 y1 y2 y3 y4
   refine (HEE.out _ HM6.out).mono ?_
   rintro en w8 ⟨rfl,hb8⟩
   have HB8:=Lib.hid (HB6.out.trans (hb8.mono HB6.out.size))
   have HM8:=Lib.hid (HM6.out.keep hb8)
   have HN8:=Lib.hid (HN6.out.kept hb8)
   have HK8:=Lib.hid (HK6.out.keep hb8 HK6.out.lt)
   have HA8:=Lib.hid (HA6.out.keep hb8 (Array.getElem?_eq_some_iff.1 HA6.out).1)
   clear hb8 HB6 HM6 HN6 HK6 HA6 HEE
   cases EI with
   | false =>
     have HNN:Hid (N=6):=Lib.hid (by rw [←HN.out];exact checkE_no (by rw [HIN.out];rfl))
     go_wp2
     go_ret
     exact ⟨by rw [HNN.out];rfl,HB8.out⟩
   | true =>
   cases AI with
   | false =>
     have HNN:Hid (N=6):=Lib.hid (by rw [←HN.out];exact checkE_no (by rw [HIN.out];rfl))
     go_wp2
     go_ret
     exact ⟨by rw [HNN.out];rfl,HB8.out⟩
   | true =>
   cases FI with
   | false =>
     have HNN:Hid (N=6):=Lib.hid (by rw [←HN.out];exact checkE_no (by rw [HIN.out];rfl))
     go_wp2
     go_ret
     exact ⟨by rw [HNN.out];rfl,HB8.out⟩
   | true =>
     have HINT:Hid (inM M x.key=true):=Lib.hid (by rw [HIN.out];rfl)
     have HARG:Hid ((isP x.key && decide (x.key.p=x.key.e))=false):=Lib.hid (by rw [HPP.out];rfl)
     obtain ⟨y0,y1,y2,y3,y4⟩:=Fa.key5 HK8.out
     simp only [Nat.zero_add] at y0 y1 y2 y3 y4
     obtain ⟨z0,z1,z2,z3,z4,z5⟩:=HA8.out.facts
     cases hB:A.both with
     | true =>
       have HNN:Hid (N=15):=Lib.hid (by rw [←HN.out];exact checkE_cls HINT.out HARG.out (by rw [HPP.out,HMU.out,hB];simp))
       rw [hB] at z3
       clear hB
       go_wp2
       go_ret
       exact ⟨by rw [HNN.out];rfl,HB8.out⟩
     | false =>
       have HNE:Hid (N=if K=2 then 8 else 0):=Lib.hid (by rw [←HN.out,←HKF.out];exact checkE_end HINT.out HARG.out (by rw [HPP.out,HMU.out,hB]))
       rw [hB] at z3
       clear hB
       by_cases hK2:K=2
       ·subst hK2
        go_wp2
        go_ret
        exact ⟨by rw [HNE.out];rfl,HB8.out⟩
       ·have HNN:Hid (N=0):=Lib.hid (by rw [HNE.out,if_neg hK2])
        have hk2:(K==2)=false:=by simpa using hK2
        clear hK2
        go_wp2
        go_ret
        exact ⟨by rw [HNN.out];rfl,HB8.out⟩
 | true =>
   have hq:(!x.key.p.toList.isEmpty)=true:=hq0
   have hq2:x.key.p.toList.isEmpty=false:=by simpa using hq0
   clear hq0
   go_wp2_with fail
   clear k0 k1 k2 k3 k4 k5 k6 k7 k8 y0 y1 y2 y3 y4
   refine (HEE.out _ HM6.out).mono ?_
   rintro en w8 ⟨rfl,hb8⟩
   have HB8:=Lib.hid (HB6.out.trans (hb8.mono HB6.out.size))
   have HM8:=Lib.hid (HM6.out.keep hb8)
   have HN8:=Lib.hid (HN6.out.kept hb8)
   have HK8:=Lib.hid (HK6.out.keep hb8 HK6.out.lt)
   have HA8:=Lib.hid (HA6.out.keep hb8 (Array.getElem?_eq_some_iff.1 HA6.out).1)
   clear hb8 HB6 HM6 HN6 HK6 HA6 HEE
   cases EI with
   | false =>
     have HNN:Hid (N=6):=Lib.hid (by rw [←HN.out];exact checkE_no (by rw [HIN.out];rfl))
     go_wp2
     go_ret
     exact ⟨by rw [HNN.out];rfl,HB8.out⟩
   | true =>
   cases AI with
   | false =>
     have HNN:Hid (N=6):=Lib.hid (by rw [←HN.out];exact checkE_no (by rw [HIN.out];rfl))
     go_wp2
     go_ret
     exact ⟨by rw [HNN.out];rfl,HB8.out⟩
   | true =>
   cases FI with
   | false =>
     have HNN:Hid (N=6):=Lib.hid (by rw [←HN.out];exact checkE_no (by rw [HIN.out];rfl))
     go_wp2
     go_ret
     exact ⟨by rw [HNN.out];rfl,HB8.out⟩
   | true =>
     obtain ⟨k0,k1,k2,k3,k4,k5,k6,k7,k8⟩:=HN8.out
     obtain ⟨y0,y1,y2,y3,y4⟩:=Fa.key5 HK8.out
     simp only [Nat.zero_add] at y0 y1 y2 y3 y4
     go_wp2_with fail
     clear k0 k1 k2 k3 k4 k5 k6 k7 k8 y0 y1 y2 y3 y4
     refine (HEP.out _ HM8.out).mono ?_
     rintro en w9 ⟨rfl,hb9⟩
     have HB9:=Lib.hid (HB8.out.trans (hb9.mono HB8.out.size))
     have HK9:=Lib.hid (HK8.out.keep hb9 HK8.out.lt)
     have HA9:=Lib.hid (HA8.out.keep hb9 (Array.getElem?_eq_some_iff.1 HA8.out).1)
     clear hb9 HB8 HM8 HN8 HK8 HA8 HEP
     cases PI with
     | false =>
       have HNN:Hid (N=6):=Lib.hid (by rw [←HN.out];exact checkE_no (by rw [HIN.out];rfl))
       go_wp2
       go_ret
       exact ⟨by rw [HNN.out];rfl,HB9.out⟩
     | true =>
     have HINT:Hid (inM M x.key=true):=Lib.hid (by rw [HIN.out];rfl)
     obtain ⟨y0,y1,y2,y3,y4⟩:=Fa.key5 HK9.out
     simp only [Nat.zero_add] at y0 y1 y2 y3 y4
     obtain ⟨z0,z1,z2,z3,z4,z5⟩:=HA9.out.facts
     cases hpe:(x.key.p.toList==x.key.e.toList) with
     | true =>
       have HNN:Hid (N=1):=Lib.hid (by
        rw [←HN.out]
        exact checkE_arg HINT.out (by rw [HPP.out,(Lib.bytes_beq_iff _ _).1 hpe];simp))
       go_wp2
       go_ret
       exact ⟨by rw [HNN.out];rfl,HB9.out⟩
     | false =>
     have HARG:Hid ((isP x.key && decide (x.key.p=x.key.e))=false):=Lib.hid (by rw [HPP.out,Bool.true_and];exact decide_eq_false ((Lib.bytes_beq_false_iff _ _).1 hpe))
     cases hB:A.both with
     | false =>
       have HNN:Hid (N=15):=Lib.hid (by rw [←HN.out];exact checkE_cls HINT.out HARG.out (by rw [HPP.out,HMU.out,hB];simp))
       rw [hB] at z3
       clear hB
       go_wp2
       go_ret
       exact ⟨by rw [HNN.out];rfl,HB9.out⟩
     | true =>
       have HNE:Hid (N=if K=2 then 8 else 0):=Lib.hid (by rw [←HN.out,←HKF.out];exact checkE_end HINT.out HARG.out (by rw [HPP.out,HMU.out,hB]))
       rw [hB] at z3
       clear hB
       by_cases hK2:K=2
       ·subst hK2
        go_wp2
        go_ret
        exact ⟨by rw [HNE.out];rfl,HB9.out⟩
       ·have HNN:Hid (N=0):=Lib.hid (by rw [HNE.out,if_neg hK2])
        have hk2:(K==2)=false:=by simpa using hK2
        clear hK2
        go_wp2
        go_ret
        exact ⟨by rw [HNN.out];rfl,HB9.out⟩
end Go.Proofs.YtfhhihamndbcnaaGreatDoor.Pk
end
section
namespace Go.Proofs.YtfhhihamndbcnaaGreatDoor.Pk
open Go.RowKit Go.Maps Go.Proofs.YtfhhihamndbcnaaGreatDoor.Un
abbrev pkCells (c f e l:Value) (M:Mast) (m:Nat) (S:St) (v:Value):Array Value:=#[c,f,e,l,.string M.cur,.string M.res,.string M.dif,.string M.min,.string M.stk,.map (some m),.string S.ent,.int .i64 S.mrk,v]
abbrev BoxPk (W:World) (R m:Nat) (c f e l:Value) (M:Mast) (S:St) (v:Value):Prop:=W.heap[R]?=some (.cells (pkCells c f e l M m S v) 101 (0,0))
abbrev MapPk (W:World) (m n:Nat) (D:DataW Unit):Prop:=W.ownsMap Tryz.prog 9 (plainElem Tryz.prog 3) m n D
def HadD (D:DataW Unit) (had:List ByteArray):Prop:=∀ c:ByteArray,D.atKey (kS c) (.lit (.int .i64 0))=.lit (.int .i64 (if hadB had c=true then 1 else 0))
theorem HadD.zero:HadD (.map []) []:=fun _=>rfl
structure PkAt (W:World) (B R m:Nat) (c f e l:Value) (M:Mast) (n:Nat) (D:DataW Unit) (S:St) (v:Value):Prop where
 box:BoxPk W R m c f e l M S v
 facts:W.ownsRow B 62 6 v S.facts.length (flat Fa.encF S.facts)
 map:MapPk W m n D
 had:HadD D S.had
 geR:B≤R
 geM:B≤m
section
variable {W W':World} {B R m n:Nat} {c f e l v:Value} {D:DataW Unit} {M:Mast} {S:St}
theorem PkAt.lt (h:PkAt W B R m c f e l M n D S v):R < W.heap.size:=(Array.getElem?_eq_some_iff.1 h.box).1
theorem PkAt.nine (h:PkAt W B R m c f e l M n D S v):NineAt W R c f e l M:=nine_of (more:=[.map (some m),.string S.ent,.int .i64 S.mrk,v]) h.box
theorem PkAt.four (h:PkAt W B R m c f e l M n D S v):W.cell? ⟨R,9,none⟩=some (.map (some m))∧W.cell? ⟨R,10,none⟩=some (.string S.ent)∧W.cell? ⟨R,11,none⟩=some (.int .i64 S.mrk)∧W.cell? ⟨R,12,none⟩=some v:=by
 have hc:=fun i=>cell_of_row W R i _ _ (0,0) h.box
 exact ⟨(hc 9).trans rfl,(hc 10).trans rfl,(hc 11).trans rfl,(hc 12).trans rfl⟩
theorem PkAt.free (h:PkAt W B R m c f e l M n D S v) (o:Nat):W.frozen? ⟨R,o,none⟩=false:=by
 have:=h.box
 unfold BoxPk at this
 simp [World.frozen?,this]
theorem PkAt.below (h:PkAt W B R m c f e l M n D S v) (hb:Below W.heap.size W W'):PkAt W' B R m c f e l M n D S v :=
 ⟨(hb.block R h.lt).trans h.box,row_below h.facts hb,h.map.kept (row:=none) ⟨hb.os,hb.tape,hb.output,hb.size,fun j hj _=>hb.block j hj⟩ (by simp),h.had,h.geR,h.geM⟩
theorem PkAt.mono {k:Nat} (h:PkAt W B R m c f e l M n D S v) (hk:n≤k):PkAt W B R m c f e l M k D S v:=⟨h.box,h.facts,h.map.mono hk,h.had,h.geR,h.geM⟩
theorem pmap_apart {W:World} {m n B:Nat} {D:DataW Unit} {e:TypeId} {s k:Nat} {v:Value} {xs:List Value} (hm:MapPk W m n D) (h:W.ownsRow B e s v k xs):some m≠v.ownBlock:=by
 obtain ⟨es,cl,hb,_⟩:=hm
 rcases h.2 with ⟨rfl,_⟩ | ⟨g,cap,cur,rfl,_,hg,_⟩
 ·simp [Value.ownBlock]
 ·intro e0
  obtain rfl:m=g:=by simpa [Value.ownBlock] using e0
  rw [hb] at hg
  cases hg
theorem PkAt.apart (h:PkAt W B R m c f e l M n D S v):R≠m:=fun e0=>by
 subst e0
 obtain ⟨es,cl,hb,_⟩:=h.map
 have:=h.box
 unfold BoxPk at this
 rw [hb] at this;cases this
theorem PkAt.stored {S':St} {v':Value} (h:PkAt W B R m c f e l M n D S v) (i:Nat) (x:Value) (heq:(pkCells c f e l M m S v).setIfInBounds i x=pkCells c f e l M m S' v')
 (h0:W.ownsRow B 62 6 v' S'.facts.length (flat Fa.encF S'.facts)) (hd:S'.had=S.had):PkAt (W.setCell ⟨R,i,none⟩ x) B R m c f e l M n D S' v':=by
 have hg:W.grownBy (W.setCell ⟨R,i,none⟩ x) (some R):=⟨rfl,rfl,rfl,by simp [World.setCell],fun k _ hk=>Below.heap_setCell W _ x k (fun e=>hk (by rw [e]))⟩
 refine ⟨?_,h0.kept hg (own_or (box_apart h.box h0 (by decide))),h.map.kept hg (fun e=>h.apart (Option.some.inj e).symm),by rw [hd];exact h.had,h.geR,h.geM⟩
 have:=Joins.block_setCell (i:=i) h.box x
 rw [heq] at this
 exact this
theorem PkAt.mapTurned {k:Nat} {D':DataW Unit} {had':List ByteArray} (h:PkAt W B R m c f e l M n D S v) (hg:W.grownBy W' (some m)) (hm:MapPk W' m k D') (hd:HadD D' had'):PkAt W' B R m c f e l M k D' ⟨S.ent,S.mrk,had',S.facts⟩ v :=
 ⟨(hg.block R h.lt (fun e0=>h.apart (Option.some.inj e0))).trans h.box,h.facts.kept hg (.inr (pmap_apart h.map h.facts).symm),hm,hd,h.geR,h.geM⟩
end
theorem HadD.put {D:DataW Unit} {had:List ByteArray} (h:HadD D had) (ht:Tidy D) (c:ByteArray):HadD (D.put (kS c) (.lit (.int .i64 1))) (had++[c]):=fun x=>by
 by_cases he:x=c
 ·subst he
  rw [atKey_put_same ht.isMap (kS_key _),if_pos (hadB_iff.2 (by simp))]
 ·rw [atKey_put_other (fun e=>he (kS_inj e)),h x]
  have:hadB (had++[c]) x=hadB had x:=by
   rw [Bool.eq_iff_iff,hadB_iff,hadB_iff]
   simp [he]
  rw [this]
def BeginTold (W:World) (B R m:Nat) (c f e l:Value) (M:Mast) (n:Nat) (D:DataW Unit) (S:St) (v:Value) (x:ByteArray) (k:Int) (en:Ending) (W':World):Prop :=
 en=.returned (.int .i64 (begE M x))∧Below B W W'∧(begE M x=0→PkAt W' B R m c f e l M n D ⟨x,k,S.had,S.facts⟩ v)
set_option maxRecDepth 100000 in
set_option maxHeartbeats 4000000 in
theorem begin_any (x:ByteArray) (k:Int) (W:World) (B R m:Nat) (c f e l:Value) (M:Mast) (n:Nat) (D:DataW Unit) (S:St) (v:Value) (hB:B≤W.heap.size) (hm:MastIn W c f e l M) (h:PkAt W B R m c f e l M n D S v) :
 Calls Tryz.prog 132 #[.pointer (some ⟨R,0,none⟩),.string x,.int .i64 k] W (BeginTold W B R m c f e l M n D S v x k):=by
 obtain ⟨pc,cc,pf,cf,pe,ce,pl,cl,rfl,rfl,rfl,rfl⟩:=shapes hm
 have HB0:=Lib.hid hB
 have HM:=Lib.hid hm
 have HP:=Lib.hid h
 have HNM:=Lib.hid (fun W=>name_at x W)
 have HEE:=Lib.hid (fun W h=>isEntity_any (.slice pc M.chart.length cc) (.slice pf M.flows.length cf) (.slice pe M.ents.length ce) (.slice pl M.lines.length cl) M x W h)
 obtain ⟨I,hI⟩:∃ I,nameL x.data.toList=I:=⟨_,rfl⟩
 obtain ⟨J,hJ⟩:∃ J,hasE M x=J:=⟨_,rfl⟩
 have HBE:Hid (begE M x=if I=false then 5 else if J=false then 6 else 0):=Lib.hid (by unfold begE nmB;rw [hI,hJ])
 simp only [hI] at HNM
 simp only [hJ] at HEE
 obtain ⟨N,hN⟩:∃ N,begE M x=N:=⟨_,rfl⟩
 unfold BeginTold
 rw [hN] at HBE ⊢
 clear hI hJ hN hm h hB
 go_enter Tryz.func132,Tryz.ntmps132
 go_wp2_with fail
 refine (HNM.out _).mono ?_
 rintro en w1 ⟨rfl,rfl⟩
 cases I with
 | false =>
   have HNN:Hid (N=5):=Lib.hid (by rw [HBE.out];rfl)
   go_wp2
   go_ret
   exact ⟨by rw [HNN.out];rfl,Below.refl _ _,fun h=>by rw [HNN.out] at h;cases h⟩
 | true =>
   obtain ⟨k0,k1,k2,k3,k4,k5,k6,k7,k8⟩:=HP.out.nine
   go_wp2_with fail
   clear k0 k1 k2 k3 k4 k5 k6 k7 k8
   refine (HEE.out _ HM.out).mono ?_
   rintro en w2 ⟨rfl,hb2⟩
   have HB2:=Lib.hid (hb2.mono HB0.out)
   have HP2:=Lib.hid (HP.out.below hb2)
   clear hb2
   cases J with
   | false =>
     have HNN:Hid (N=6):=Lib.hid (by rw [HBE.out];rfl)
     go_wp2
     go_ret
     exact ⟨by rw [HNN.out];rfl,HB2.out,fun h=>by rw [HNN.out] at h;cases h⟩
   | true =>
     have HNN:Hid (N=0):=Lib.hid (by rw [HBE.out];rfl)
     have HP3:Hid (PkAt (w2.setCell ⟨R,10,none⟩ (.string x)) B R m _ _ _ _ M n D ⟨x,S.mrk,S.had,S.facts⟩ v):=Lib.hid (HP2.out.stored 10 _ rfl HP2.out.facts rfl)
     have HP4:Hid (PkAt ((w2.setCell ⟨R,10,none⟩ (.string x)).setCell ⟨R,11,none⟩ (.int .i64 k)) B R m _ _ _ _ M n D ⟨x,k,S.had,S.facts⟩ v):=Lib.hid (HP3.out.stored 11 _ rfl HP3.out.facts rfl)
     have HB4:Hid (Below B W ((w2.setCell ⟨R,10,none⟩ (.string x)).setCell ⟨R,11,none⟩ (.int .i64 k))):=Lib.hid ((HB2.out.setCell (p:=⟨R,10,none⟩) HP.out.geR _).setCell (p:=⟨R,11,none⟩) HP.out.geR _)
     obtain ⟨_,d10,d11,_⟩:=HP2.out.four
     have fz:=HP2.out.free
     have fz10:=fz 10
     have fz11:=fz 11
     obtain ⟨_,_,e11,_⟩:=HP3.out.four
     have gz11:=HP3.out.free 11
     clear fz
     go_wp2
     go_ret
     exact ⟨by rw [HNN.out];rfl,HB4.out,fun _=>HP4.out⟩
end Go.Proofs.YtfhhihamndbcnaaGreatDoor.Pk
end
section
namespace Go.Proofs.YtfhhihamndbcnaaGreatDoor.Pk
open Go.RowKit Go.Maps Go.Proofs.YtfhhihamndbcnaaGreatDoor.Un
set_option maxRecDepth 100000 in
theorem pack_entry {W:World} {m n:Nat} {D:DataW Unit} {had:List ByteArray} {x:ByteArray} (hm:MapPk W m n D) (hd:HadD D had) (hx:x.size≤maxLen) (hn:n < maxLen) :
 ∃ (W4:World) (D':DataW Unit),(Instr.lookup 99 (.map (some m)) (.string x) false).run Tryz.prog W=.ok (.int .i64 (if hadB had x=true then 1 else 0)) W ∧
   (Instr.mapUpdate 99 (.map (some m)) (.string x) (.int .i64 (if hadB had x=true then 2 else 1))).run Tryz.prog W=.ok () W4 ∧
   (Instr.lookup 99 (.map (some m)) (.string x) false).run Tryz.prog W4=.ok (.int .i64 (if hadB had x=true then 2 else 1)) W4 ∧
   MapPk W4 m (n+1) D'∧W.grownBy W4 (some m)∧(hadB had x=false→HadD D' (had++[x])):=by
 have hT:=Tryz.underlying99
 have hI:=Tryz.underlying3
 have hkey:keyOf Tryz.prog 9 (.string x)=some (kS x):=WideMaps.keyOf_string_mk Tryz.underlying9 hx
 obtain ⟨c,hrun,hat,_⟩:=hm.lookup_int law9 hT hI (zeroInt _) hkey
 have hc:c=if hadB had x=true then 1 else 0:=by
  rw [hd x] at hat
  injection hat with hat
  injection hat with _ hat
  exact hat.symm
 subst hc
 have hv:plainElem (H:=Unit) Tryz.prog 3 (.int .i64 (if hadB had x=true then 2 else 1))=some (.lit (.int .i64 (if hadB had x=true then 2 else 1)),[]):=plainElem_int hI (by split <;> decide)
 obtain ⟨W4,hu,hm4,hg4⟩:=hm.update law9 hT hn hkey hv
 obtain ⟨c4,hrun4,hat4,_⟩:=hm4.lookup_int law9 hT hI (zeroInt _) hkey
 have hc4:c4=if hadB had x=true then 2 else 1:=by
  rw [atKey_put_same (hm.tidy law9).isMap (kS_key _)] at hat4
  injection hat4 with hat4
  injection hat4 with _ hat4
  exact hat4.symm
 subst hc4
 refine ⟨W4,_,hrun,hu,hrun4,hm4,hg4,fun hno=>?_⟩
 rw [if_neg (by rw [hno];simp)]
 exact hd.put (hm.tidy law9) x
def LineP (W:World) (B R m n:Nat) (c f e l:Value) (M:Mast) (S':St) (E:Int) (en:Ending) (W':World):Prop :=
 en=.returned (.int .i64 E)∧Below B W W'∧(E=0→∃ D' v',PkAt W' B R m c f e l M (n+1) D' S' v')
set_option maxRecDepth 100000 in
set_option maxHeartbeats 4000000 in
theorem readPackage_any (u:Value) (x:ByteArray) (W:World) (B R m:Nat) (c f e l:Value) (M:Mast) (n:Nat) (D:DataW Unit) (S:St) (v:Value) (hu:StrsV W u [x]) (hB:B≤W.heap.size) (hn:n < maxLen) (hm:MastIn W c f e l M) (h:PkAt W B R m c f e l M n D S v) :
 Calls Tryz.prog 99 #[.pointer (some ⟨R,0,none⟩),u] W (LineP W B R m n c f e l M ⟨x,0,S.had++[x],S.facts⟩ (if begE M x=0 then (if hadB S.had x=true then 7 else 0) else begE M x)):=by
 obtain ⟨p,cp,rfl,_,_,hc⟩:=hu
 obtain ⟨g,o,rfl,k0⟩:=hc 0 x rfl
 rw [Nat.add_zero] at k0
 have HBG:=Lib.hid (begin_any x 0 W B R m c f e l M n D S v hB hm h)
 have HB0:=Lib.hid hB
 have HSZ:Hid (begE M x=0→x.size≤maxLen):=Lib.hid (fun h0=>by have:=(nm_size (begE_zero.1 h0).1).2;unfold maxLen;omega)
 have HNN:=Lib.hid hn
 unfold BeginTold at HBG
 obtain ⟨N,hN⟩:∃ N,begE M x=N:=⟨_,rfl⟩
 rw [hN] at HBG HSZ ⊢
 obtain ⟨E,hE⟩:∃ E,(if N=0 then (if hadB S.had x=true then 7 else 0) else N)=E:=⟨_,rfl⟩
 rw [hE]
 have HE:=Lib.hid hE
 clear hc hm h hB hN hn hE
 go_enter Tryz.func99,Tryz.ntmps99
 go_wp2_with fail
 clear k0
 refine HBG.out.mono ?_
 rintro en w1 ⟨rfl,hb1,hp1⟩
 have HB1:=Lib.hid hb1
 have HP1:=Lib.hid hp1
 clear hb1 hp1
 by_cases h0:N=0
 ·subst h0
  have HP:=Lib.hid (HP1.out rfl)
  obtain ⟨W4,D',hl1,hu1,hl2,hm4,hg4,hd4⟩:=pack_entry HP.out.map HP.out.had (HSZ.out rfl) HNN.out
  obtain ⟨d9,_,_,_⟩:=HP.out.four
  have HB4:Hid (Below B W W4):=Lib.hid (HB1.out.grown hg4 (by have:=HB1.out.size;have:=HB0.out;omega) (fun j hj=>by cases hj;exact HP.out.geM))
  have HM4:=Lib.hid hm4
  have HG4:=Lib.hid hg4
  have HD4:=Lib.hid hd4
  have hR:R < w1.heap.size:=HP.out.lt
  have d9':W4.cell? ⟨R,9,none⟩=some (.map (some m)):=by
   have:=(HP.out.mapTurned (had':=S.had++[x]) (D':=D') (k:=n+1) hg4 hm4)
   exact (hg4.cell d9 (fun e=>HP.out.apart (Option.some.inj e)))
  clear hm4 hg4 hd4 hR
  cases hh:hadB S.had x with
  | true =>
    rw [hh] at hl1 hu1 hl2
    simp only [if_true] at hl1 hu1 hl2
    have HEE:Hid (E=7):=Lib.hid (by rw [←HE.out,if_pos rfl,if_pos hh])
    go_wp2
    go_ret
    exact ⟨by rw [HEE.out];rfl,HB4.out,fun h=>by rw [HEE.out] at h;cases h⟩
  | false =>
    have HD5:=Lib.hid (HD4.out hh)
    rw [hh] at hl1 hu1 hl2
    simp only [Bool.false_eq_true,if_false] at hl1 hu1 hl2
    have HEE:Hid (E=0):=Lib.hid (by rw [←HE.out,if_pos rfl,if_neg (by rw [hh];simp)])
    go_wp2
    go_ret
    exact ⟨by rw [HEE.out];rfl,HB4.out,fun _=>⟨D',v,HP.out.mapTurned HG4.out HM4.out HD5.out⟩⟩
 ·have hnz:(N != 0)=true:=by simp [h0]
  have HH0:=Lib.hid h0
  have HEE:Hid (E=N):=Lib.hid (by rw [←HE.out,if_neg h0])
  clear h0
  go_wp2
  go_ret
  exact ⟨by rw [HEE.out];rfl,HB1.out,fun h=>absurd (HEE.out.symm.trans h) HH0.out⟩
set_option maxRecDepth 100000 in
set_option maxHeartbeats 4000000 in
theorem readJournal_any (u:Value) (x:ByteArray) (W:World) (B R m:Nat) (c f e l:Value) (M:Mast) (n:Nat) (D:DataW Unit) (S:St) (v:Value) (hu:StrsV W u [x]) (hB:B≤W.heap.size) (hm:MastIn W c f e l M) (h:PkAt W B R m c f e l M n D S v) :
 Calls Tryz.prog 100 #[.pointer (some ⟨R,0,none⟩),u] W (LineP W B R m n c f e l M ⟨x,1,S.had,S.facts⟩ (begE M x)):=by
 obtain ⟨p,cp,rfl,_,_,hc⟩:=hu
 obtain ⟨g,o,rfl,k0⟩:=hc 0 x rfl
 rw [Nat.add_zero] at k0
 have HBG:=Lib.hid (begin_any x 1 W B R m c f e l M n D S v hB hm h)
 unfold BeginTold at HBG
 obtain ⟨N,hN⟩:∃ N,begE M x=N:=⟨_,rfl⟩
 rw [hN] at HBG ⊢
 clear hc hm h hB hN
 go_enter Tryz.func100,Tryz.ntmps100
 go_wp2_with fail
 clear k0
 refine HBG.out.mono ?_
 rintro en w1 ⟨rfl,hb1,hp1⟩
 have HB1:=Lib.hid hb1
 have HP1:=Lib.hid hp1
 clear hb1 hp1
 go_wp2
 go_ret
 exact ⟨rfl,HB1.out,fun h=>⟨D,v,(HP1.out h).mono (Nat.le_succ _)⟩⟩
theorem qDash (s:ByteArray):(s.toList==[45])=decide (s=tDash):=qL s tDash _ rfl
set_option maxHeartbeats 1000000 in
theorem partnerOf_any (x:ByteArray) (w:World):Calls Tryz.prog 133 #[.string x] w fun en w'=>en=.returned (.string (parB x))∧w=w':=by
 have q:=qDash x
 obtain ⟨P,hP⟩:∃ P,parB x=P:=⟨_,rfl⟩
 rw [hP]
 by_cases h:x=tDash
 ·have HP:Hid (P=emp):=Lib.hid (by rw [←hP];unfold parB;rw [if_pos h])
  rw [decide_eq_true h] at q
  clear hP h
  go_enter Tryz.func133,Tryz.ntmps133
  go_wp2
  go_ret
  exact ⟨by rw [HP.out];rfl,rfl⟩
 ·have HP:Hid (P=x):=Lib.hid (by rw [←hP];unfold parB;rw [if_neg h])
  rw [decide_eq_false h] at q
  clear hP h
  go_enter Tryz.func133,Tryz.ntmps133
  go_wp2
  go_ret
  exact ⟨by rw [HP.out];rfl,rfl⟩
set_option maxRecDepth 100000 in
set_option maxHeartbeats 4000000 in
theorem named_any (k:Fa.Key) (w:World):Calls Tryz.prog 134 #[Fa.aggK k] w fun en w'=>en=.returned (.bool (namedK k))∧Below w.heap.size w w':=by
 have hb1:=(Below.refl w.heap.size w).alloc (Nat.le_refl _) (.cells (kCells k) 60)
 have hk1:=Fa.key5 (el_new Fa.encK w k 60)
 obtain ⟨W1,hW1⟩:∃ W1,w.alloc (.cells (kCells k) 60)=W1:=⟨_,rfl⟩
 rw [show (Fa.encK.cs k).toArray=kCells k from rfl,hW1] at hk1
 rw [hW1] at hb1
 have HB1:=Lib.hid hb1
 have HA:=Lib.hid (fun W=>name_at k.a W)
 have HF:=Lib.hid (fun W=>name_at k.f W)
 have HP:=Lib.hid (fun W=>name_at k.p W)
 obtain ⟨A,hA⟩:∃ I,nameL k.a.data.toList=I:=⟨_,rfl⟩
 obtain ⟨F,hF⟩:∃ I,nameL k.f.data.toList=I:=⟨_,rfl⟩
 obtain ⟨P,hP⟩:∃ I,nameL k.p.data.toList=I:=⟨_,rfl⟩
 obtain ⟨I,hI⟩:∃ I,isP k=I:=⟨_,rfl⟩
 have hq0:=isP_ne k
 rw [hI] at hq0
 have HN:Hid (namedK k=(A && F && (!I || P))):=Lib.hid (by unfold namedK nmB;rw [hA,hF,hP,hI])
 simp only [hA] at HA
 simp only [hF] at HF
 simp only [hP] at HP
 obtain ⟨N,hN⟩:∃ N,namedK k=N:=⟨_,rfl⟩
 rw [hN] at HN ⊢
 clear hA hF hP hI hN hb1
 obtain ⟨y0,y1,y2,y3,y4⟩:=hk1
 simp only [Nat.zero_add] at y0 y1 y2 y3 y4
 go_enter Tryz.func134,Tryz.ntmps134
 go_wp2_with fail
 clear hW1
 refine (HA.out _).mono ?_
 rintro en w1 ⟨rfl,rfl⟩
 cases A with
 | false =>
   have HNN:Hid (N=false):=Lib.hid (by rw [HN.out];rfl)
   go_wp2
   go_ret
   exact ⟨by rw [HNN.out];rfl,HB1.out⟩
 | true =>
 go_wp2_with fail
 refine (HF.out _).mono ?_
 rintro en w1 ⟨rfl,rfl⟩
 cases F with
 | false =>
   have HNN:Hid (N=false):=Lib.hid (by rw [HN.out];rfl)
   go_wp2
   go_ret
   exact ⟨by rw [HNN.out];rfl,HB1.out⟩
 | true =>
 cases I with
 | false =>
   have hq:k.p.toList.isEmpty=true:=by simpa using hq0.symm
   have HNN:Hid (N=true):=Lib.hid (by rw [HN.out];rfl)
   clear hq0
   go_wp2
   go_ret
   exact ⟨by rw [HNN.out];rfl,HB1.out⟩
 | true =>
   have hq:k.p.toList.isEmpty=false:=by simpa using hq0.symm
   have HNN:Hid (N=P):=Lib.hid (by rw [HN.out];cases P <;> rfl)
   clear hq0
   go_wp2_with fail
   refine (HP.out _).mono ?_
   rintro en w1 ⟨rfl,rfl⟩
   go_wp2
   go_ret
   exact ⟨by rw [HNN.out];rfl,HB1.out⟩
end Go.Proofs.YtfhhihamndbcnaaGreatDoor.Pk
end
section
namespace Go.Proofs.YtfhhihamndbcnaaGreatDoor.Pk
open Go.RowKit Go.Maps Go.Proofs.YtfhhihamndbcnaaGreatDoor.Un
structure Leave (ok:Nat→Prop) (w:World) where
 its:World
 keep:∀ j,ok j→j < w.heap.size→its.heap[j]?=w.heap[j]?
instance (ok:Nat→Prop) (w:World):Nonempty (Leave ok w):=⟨⟨w,fun _ _ _=>rfl⟩⟩
theorem cell_leave {ok:Nat→Prop} {w:World} {ad:Addr} {v:Value} (h:w.cell? ad=some v) (hb:ok ad.block) (p:Leave ok w):p.its.cell? ad=some v:=by
 have hlt:=World.block_lt_of_cell? w _ h
 have:=p.keep ad.block hb hlt
 unfold World.cell? at h ⊢
 rw [this];exact h
theorem leave_in {ok:Nat→Prop} {w0 w:World} (h:∀ j,ok j→j < w0.heap.size→w.heap[j]?=w0.heap[j]?):∃ p:Leave ok w0,w=p.its:=⟨⟨w,h⟩,rfl⟩
theorem wp_append_el {α:Type} {E:Enc α} {P:Program} {o:Oper} {a:Act} {w:World} {K:Act→World→Prop} {Q:Exit→Act→World→Prop} (s x:Operand) (t e:TypeId) (ho:o.op=.call { callee:=.builtin .append,args:=#[s,x],argTypes:=#[t,t] }) (HI:InfoE P t e E)
 (B:Nat) (v:Value) (L:List α) (y:α) (g:Nat) (hs:a.eval s=v) (hrow:w.ownsRow B e E.k v L.length (flat E L)) (hx:a.eval x=.slice (some ⟨g,0,none⟩) 1 1) (hc:ElAt E w g 0 y) (hB:B≤w.heap.size) (hL:L.length≤1000000)
 (h:∀ v' w',w'.ownsRow B e E.k v' (L++[y]).length (flat E (L++[y]))→Below B w w'→w.grownBy w' v.ownBlock→K (a.put o.dst v') w'):o.wp P a w K Q:=by
 obtain ⟨i,z,n,hi,hz,hsz,hn,hzs,hb⟩:=HI.info
 refine wp_append_own w s x t ho B e i z E.k n HI.under hi hz hsz hn hzs E.pos v L.length _ hs hrow ⟨g,0,none⟩ 1 1 (E.cs y) hx (by rw [E.len,Nat.one_mul]) (fun j u hj=>by rw [add_off];exact hc j u hj) (E.one y) (by unfold maxLen;omega) ?_ hB ?_
 ·exact Nat.le_trans (Nat.mul_le_mul (Nat.add_le_add_right hL 1) hb) (by decide)
 ·intro v' w' h1 h2 _
  exact h v' w' (by rw [flat_append,flat_one,List.length_append];exact h1) (below_grown (Below.refl _ _) hB hrow h2) h2
theorem infoFs:InfoE Tryz.prog 41 62 Fa.encF:=.of (z:=.agg #[.string ⟨#[]⟩,.string ⟨#[]⟩,.string ⟨#[]⟩,.string ⟨#[]⟩,.int .i64 0,.int .i64 0]) (n:=80) Tryz.underlying41 (by kernel_rfl) rfl (by decide)
theorem PkAt.put {w w':World} {B R m n:Nat} {c f e l v v':Value} {D:DataW Unit} {M:Mast} {S:St} (h:PkAt w B R m c f e l M n D S v) (o:Obj) (x:Fa.Fact) (hg:(w.alloc o).grownBy w' v.ownBlock)
 (hr:w'.ownsRow B 62 6 v' (S.facts++[x]).length (flat Fa.encF (S.facts++[x]))) :
 w'.cell? ⟨R,12,none⟩=some v∧w'.frozen? ⟨R,12,none⟩=false∧PkAt (w'.setCell ⟨R,12,none⟩ v') B R m c f e l M n D ⟨S.ent,S.mrk,S.had,S.facts++[x]⟩ v':=by
 have h1:=h.below ((Below.refl w.heap.size w).alloc (Nat.le_refl _) o)
 have hne:=box_apart h1.box h1.facts (by decide)
 have hbx:BoxPk w' R m c f e l M S v:=(hg.block R h1.lt (fun e0=>hne e0.symm)).trans h1.box
 have hmp:MapPk w' m n D:=h1.map.kept hg (pmap_apart h1.map h1.facts)
 have hg2:w'.grownBy (w'.setCell ⟨R,12,none⟩ v') (some R):=⟨rfl,rfl,rfl,by simp [World.setCell],fun k _ hk=>Below.heap_setCell w' _ v' k (fun e0=>hk (by rw [e0]))⟩
 refine ⟨(cell_of_row w' R 12 _ _ (0,0) hbx).trans rfl,?_,⟨?_,hr.kept hg2 (own_or (box_apart hbx hr (by decide))),hmp.kept hg2 (fun e0=>h.apart (Option.some.inj e0).symm),h.had,h.geR,h.geM⟩⟩
 ·have:=hbx
  unfold BoxPk at this
  simp [World.frozen?,this]
 ·exact Joins.block_setCell (i:=12) hbx v'
theorem own_sl {W:World} {B:Nat} {e:TypeId} {s n:Nat} {v:Value} {xs:List Value} (h:W.ownsRow B e s v n xs):∃ a c k,v=.slice a k c:=by
 rcases h.2 with ⟨rfl,_⟩ | ⟨g,cap,cur,rfl,_⟩
 ·exact ⟨_,_,_,rfl⟩
 ·exact ⟨_,_,_,rfl⟩
theorem own_lt {W:World} {B:Nat} {e:TypeId} {s n:Nat} {v:Value} {xs:List Value} (h:W.ownsRow B e s v n xs) {g:Nat} (hg:v.ownBlock=some g):g < W.heap.size:=by
 rcases h.2 with ⟨rfl,_⟩ | ⟨g',cap,cur,rfl,_,hb,_⟩
 ·simp [Value.ownBlock] at hg
 ·obtain rfl:g'=g:=by simpa [Value.ownBlock] using hg
  exact (Array.getElem?_eq_some_iff.1 hb).1
set_option maxRecDepth 100000 in
set_option maxHeartbeats 32000000 in
theorem readFact_any (u:Value) (a b p am:ByteArray) (W:World) (B R m:Nat) (c f e l:Value) (M:Mast) (n:Nat) (D:DataW Unit) (S:St) (v:Value) (hu:StrsV W u [a,b,p,am]) (hB:B≤W.heap.size) (hm:MastIn W c f e l M) (hsn:Sane M) (hlc:LaidC W) (ham:am.size≤1000000) (hfl:S.facts.length≤1000000) (h:PkAt W B R m c f e l M n D S v) :
 Calls Tryz.prog 101 #[.pointer (some ⟨R,0,none⟩),u] W (LineP W B R m n c f e l M ⟨S.ent,S.mrk,S.had,S.facts++[factV S [tFact,a,b,p,am]]⟩ (factE M S [tFact,a,b,p,am])):=by
 obtain ⟨q,cp,rfl,_,_,hc⟩:=hu
 obtain ⟨g,o,rfl,k0⟩:=hc 0 a rfl
 obtain ⟨g',o',e1,k1⟩:=hc 1 b rfl
 cases e1
 obtain ⟨g',o',e1,k2⟩:=hc 2 p rfl
 cases e1
 obtain ⟨g',o',e1,k3⟩:=hc 3 am rfl
 cases e1
 rw [Nat.add_zero] at k0
 obtain ⟨pc,cc,pf,cf,pe,ce,pl,cl,rfl,rfl,rfl,rfl⟩:=shapes hm
 have HB0:=Lib.hid hB
 have HM:=Lib.hid hm
 have HP:=Lib.hid h
 have HLC:=Lib.hid hlc
 obtain ⟨EN,hEN⟩:∃ EN,S.ent=EN:=⟨_,rfl⟩
 obtain ⟨MK,hMK⟩:∃ MK,S.mrk=MK:=⟨_,rfl⟩
 obtain ⟨PP,hPP⟩:∃ PP,parB p=PP:=⟨_,rfl⟩
 obtain ⟨AV,hAV⟩:∃ AV,parseV am.data.toList=AV:=⟨_,rfl⟩
 obtain ⟨AE,hAE⟩:∃ AE,parseE am.data.toList=AE:=⟨_,rfl⟩
 have hK:keyF S [tFact,a,b,p,am]=⟨EN,a,b,PP,MK⟩:=by rw [←hEN,←hMK,←hPP];rfl
 have hF:factV S [tFact,a,b,p,am]=⟨⟨EN,a,b,PP,MK⟩,AV⟩:=by unfold factV;rw [hK,←hAV];rfl
 have hE:factE M S [tFact,a,b,p,am]=if (decide (EN=emp) || !namedK ⟨EN,a,b,PP,MK⟩)=true then 5 else if AE=0 then checkE M ⟨EN,a,b,PP,MK⟩ else AE:=by
  unfold factE
  rw [hK,hEN,show wd [tFact,a,b,p,am] 4=am from rfl,hAE]
 have HPO:=Lib.hid (fun W=>partnerOf_any p W)
 have HNA:=Lib.hid (fun W=>named_any ⟨EN,a,b,PP,MK⟩ W)
 have HCN:=Lib.hid (fun W hW=>cnum_long am W ham hW)
 have HCK:=Lib.hid (fun W h=>check_any (.slice pc M.chart.length cc) (.slice pf M.flows.length cf) (.slice pe M.ents.length ce) (.slice pl M.lines.length cl) M ⟨⟨EN,a,b,PP,MK⟩,AV⟩ W h (Fl.rise_codes hsn.fl) (by have:=hsn.lf;omega))
 simp only [hPP] at HPO
 simp only [hAV,hAE] at HCN
 obtain ⟨NM,hNM⟩:∃ N,namedK ⟨EN,a,b,PP,MK⟩=N:=⟨_,rfl⟩
 obtain ⟨CE,hCE⟩:∃ N,checkE M ⟨EN,a,b,PP,MK⟩=N:=⟨_,rfl⟩
 simp only [hNM] at HNA
 simp only [hCE] at HCK
 rw [hNM,hCE] at hE
 obtain ⟨E,hEE⟩:∃ E,factE M S [tFact,a,b,p,am]=E:=⟨_,rfl⟩
 rw [hEE] at hE
 rw [hF,hEE]
 have HE:=Lib.hid hE
 obtain ⟨d9,d10,d11,d12⟩:=h.four
 rw [hEN] at d10
 rw [hMK] at d11
 have HEN:=Lib.hid hEN
 have HMK:=Lib.hid hMK
 have HFL:=Lib.hid hfl
 clear hc hm h hB hlc hEN hMK hPP hAV hAE hK hF hE hNM hCE hEE hsn ham hfl d9
 go_enter Tryz.func101,Tryz.ntmps101
 go_wp2_with fail
 have r0:=fun q:Past W=>cell_past k0 q
 have r1:=fun q:Past W=>cell_past k1 q
 have r2:=fun q:Past W=>cell_past k2 q
 have r10:=fun q:Past W=>cell_past d10 q
 have r11:=fun q:Past W=>cell_past d11 q
 have HK3:=Lib.hid k3
 clear k0 k1 k2 k3 d10 d11 d12
 refine wp_region_plan (.two [0,1,2,3,4,5,6,7,8,9,10,11,12,14,15,16,17] 13 (.one [18] 19 (.one [] 20 (.last []))) 19 (.one [] 13 (.one [18] 20 (.last [])))) (by kernel_rfl) (by kernel_rfl) (fun d _ _ _ _ h=>by cases d <;> exact h) ?_
 obtain ⟨wq,hwq⟩:∃ wq,W.drew=wq:=⟨_,rfl⟩
 rw [hwq]
 have HD:Hid (Below W.heap.size W wq):=Lib.hid (by rw [←hwq];exact ⟨rfl,rfl,rfl,Nat.le_refl _,fun _ _=>rfl⟩)
 clear hwq
 have HZ0:=Lib.hid (BoxE.new Fa.encK wq ⟨⟨#[]⟩,⟨#[]⟩,⟨#[]⟩,⟨#[]⟩,0⟩ 60)
 have hbz:=(Below.refl wq.heap.size wq).alloc (Nat.le_refl _) (.cells (Fa.encK.cs ⟨⟨#[]⟩,⟨#[]⟩,⟨#[]⟩,⟨#[]⟩,0⟩).toArray 60)
 have HBZ:=Lib.hid hbz
 clear hbz
 simp only [wpPlan,pick,nth]
 repeat (go_big_quiet_step (fail))
 refine wpQuiet_nil ?_
 clear r0 r1 r2 r10 r11
 refine ⟨?_,?_⟩
 intro K hK
 refine alone_want (by kernel_rfl) ?_
 go_big_op
 refine (HPO.out wq).mono ?_
 rintro en w' ⟨rfl,rfl⟩
 refine hK _ _ (past_in HD.out) ?_
 clear hK K
 repeat (go_big_quiet_step (fail))
 refine wpQuiet_nil ?_
 intro K hK
 refine alone_want (by kernel_rfl) ?_
 go_big_op
 refine hK _ _ (past_in (HD.out.trans (HBZ.out.mono HD.out.size))) ?_
 clear hK K
 refine wpQuiet_nil ?_
 intro K hK
 refine alone_want (by kernel_rfl) ?_
 refine Fa.wp_store_box (E:=Fa.encK) 60 (.tmp 5) (.tmp 28) rfl wq.heap.size 60 ⟨⟨#[]⟩,⟨#[]⟩,⟨#[]⟩,⟨#[]⟩,0⟩ ⟨EN,a,b,PP,MK⟩ rfl rfl HZ0.out (by kernel_rfl) ?_
 intro w5 hat5 hg5
 have HK5:=Lib.hid hat5
 have HB5:=Lib.hid (HD.out.trans ((HBZ.out.grown hg5 HBZ.out.size (fun j hj=>by cases hj;exact Nat.le_refl _)).mono HD.out.size))
 clear hat5 hg5
 refine hK _ _ (past_in HB5.out) ?_
 clear hK K
 simp only [Act.put]
 refine wpQuiet_nil ?_
 rotate_left
 intro K hK
 refine alone_want (by kernel_rfl) ?_
 go_big_op
 refine hK _ _ (past_in (HD.out.trans (HBZ.out.mono HD.out.size))) ?_
 clear hK K
 refine wpQuiet_nil ?_
 intro K hK
 refine alone_want (by kernel_rfl) ?_
 go_big_op
 refine (HPO.out _).mono ?_
 rintro en w' ⟨rfl,rfl⟩
 refine hK _ _ (past_in (HD.out.trans (HBZ.out.mono HD.out.size))) ?_
 clear hK K
 repeat (go_big_quiet_step (fail))
 refine wpQuiet_nil ?_
 intro K hK
 refine alone_want (by kernel_rfl) ?_
 refine Fa.wp_store_box (E:=Fa.encK) 60 (.tmp 5) (.tmp 28) rfl wq.heap.size 60 ⟨⟨#[]⟩,⟨#[]⟩,⟨#[]⟩,⟨#[]⟩,0⟩ ⟨EN,a,b,PP,MK⟩ rfl rfl HZ0.out (by kernel_rfl) ?_
 intro w5 hat5 hg5
 have HK5:=Lib.hid hat5
 have HB5:=Lib.hid (HD.out.trans ((HBZ.out.grown hg5 HBZ.out.size (fun j hj=>by cases hj;exact Nat.le_refl _)).mono HD.out.size))
 clear hat5 hg5
 refine hK _ _ (past_in HB5.out) ?_
 clear hK K
 simp only [Act.put]
 refine wpQuiet_nil ?_
 all_goals
  have HP5:=Lib.hid (HP.out.below HB5.out)
  have HM5:=Lib.hid (HM.out.keep HB5.out)
  obtain ⟨_,d10,d11,d12⟩:=HP5.out.four
  rw [HEN.out] at d10
  obtain ⟨y0,y1,y2,y3,y4⟩:=Fa.key5 HK5.out
  simp only [Nat.zero_add] at y0 y1 y2 y3 y4
  by_cases hen:EN=emp
  ·have hq:EN.toList.isEmpty=true:=by subst hen;rw [ByteArray.toList_eq];rfl
   have HNN:Hid (E=5):=Lib.hid (by rw [HE.out,if_pos (by simp [hen])])
   clear hen
   go_wp2
   go_ret
   exact ⟨by rw [HNN.out];rfl,HB5.out.mono HB0.out,fun h=>by rw [HNN.out] at h;cases h⟩
  have hq:EN.toList.isEmpty=false:=by
   have:=(neB_iff EN).2 hen
   unfold neB at this
   simpa using this
  have HE2:Hid (E=if NM=false then 5 else if AE=0 then CE else AE):=Lib.hid (by rw [HE.out,decide_eq_false hen];cases NM <;> simp)
  clear hen
  go_wp2_with fail
  clear y0 y1 y2 y3 y4 d10 d11 d12
  refine (HNA.out _).mono ?_
  rintro en w6 ⟨rfl,hb6⟩
  have HB6:=Lib.hid (HB5.out.trans (hb6.mono HB5.out.size))
  have HP6:=Lib.hid (HP5.out.below hb6)
  have HK6:=Lib.hid (HK5.out.keep hb6 HK5.out.lt)
  clear hb6 HB5 HP5 HM5 HK5 hq
  cases NM with
  | false =>
    have HNN:Hid (E=5):=Lib.hid (by rw [HE2.out];rfl)
    go_wp2
    go_ret
    exact ⟨by rw [HNN.out];rfl,HB6.out.mono HB0.out,fun h=>by rw [HNN.out] at h;cases h⟩
  | true =>
  have k3:=(HB6.out.cell (World.block_lt_of_cell? W _ HK3.out)).trans HK3.out
  go_wp2_with fail
  clear k3
  refine (HCN.out _ (HLC.out.below HB6.out)).mono ?_
  rintro en w7 ⟨rfl,hb7⟩
  have HB7:=Lib.hid (HB6.out.trans (hb7.mono HB6.out.size))
  have HP7:=Lib.hid (HP6.out.below hb7)
  have HK7:=Lib.hid (HK6.out.keep hb7 HK6.out.lt)
  clear hb7 HB6 HP6 HK6
  by_cases hae:AE=0
  rotate_left
  ·have HNN:Hid (E=AE):=Lib.hid (by rw [HE2.out,if_neg (by simp),if_neg hae])
   have hae':(AE != 0)=true:=by simp [hae]
   have HAE:=Lib.hid hae
   clear hae
   go_wp2
   go_ret
   exact ⟨by rw [HNN.out];rfl,HB7.out.mono HB0.out,fun h=>absurd (HNN.out.symm.trans h) HAE.out⟩
  subst hae
  have HE3:Hid (E=CE):=Lib.hid (by rw [HE2.out,if_neg (by simp),if_pos rfl])
  obtain ⟨y0,y1,y2,y3,y4⟩:=Fa.key5 HK7.out
  simp only [Nat.zero_add] at y0 y1 y2 y3 y4
  have hb8:=(Below.refl w7.heap.size w7).alloc (Nat.le_refl _) (.cells (fCells ⟨⟨EN,a,b,PP,MK⟩,AV⟩) 62)
  have HF8:Hid (ElAt Fa.encF (w7.alloc (.cells (fCells ⟨⟨EN,a,b,PP,MK⟩,AV⟩) 62)) w7.heap.size 0 ⟨⟨EN,a,b,PP,MK⟩,AV⟩):=Lib.hid (el_new Fa.encF w7 ⟨⟨EN,a,b,PP,MK⟩,AV⟩ 62)
  obtain ⟨W8,hW8⟩:∃ W8,w7.alloc (.cells (fCells ⟨⟨EN,a,b,PP,MK⟩,AV⟩) 62)=W8:=⟨_,rfl⟩
  rw [hW8] at hb8 HF8
  have HB8:=Lib.hid (HB7.out.trans (hb8.mono HB7.out.size))
  have HP8:=Lib.hid (HP7.out.below hb8)
  have HM8:=Lib.hid (HM.out.keep HB8.out)
  have HSZ7:Hid (w7.heap.size < W8.heap.size):=Lib.hid HF8.out.lt
  go_wp2_with fail
  clear y0 y1 y2 y3 y4 hW8 hb8
  obtain ⟨n0,n1,n2,n3,n4,n5,n6,n7,n8⟩:=HP8.out.nine
  obtain ⟨f0,f1,f2,f3,f4,f5⟩:=Fa.fact6 HF8.out
  simp only [Nat.zero_add] at f0 f1 f2 f3 f4 f5
  have s0:=fun q:Past W8=>cell_past n0 q
  have s1:=fun q:Past W8=>cell_past n1 q
  have s2:=fun q:Past W8=>cell_past n2 q
  have s3:=fun q:Past W8=>cell_past n3 q
  have s4:=fun q:Past W8=>cell_past n4 q
  have s5:=fun q:Past W8=>cell_past n5 q
  have s6:=fun q:Past W8=>cell_past n6 q
  have s7:=fun q:Past W8=>cell_past n7 q
  have s8:=fun q:Past W8=>cell_past n8 q
  have t0:=fun q:Past W8=>cell_past f0 q
  have t1:=fun q:Past W8=>cell_past f1 q
  have t2:=fun q:Past W8=>cell_past f2 q
  have t3:=fun q:Past W8=>cell_past f3 q
  have t4:=fun q:Past W8=>cell_past f4 q
  have t5:=fun q:Past W8=>cell_past f5 q
  clear n0 n1 n2 n3 n4 n5 n6 n7 n8 f0 f1 f2 f3 f4 f5
  refine wp_region_plan (.one [0,1,2,3,4] 5 (.last [6])) (by kernel_rfl) (by kernel_rfl) (fun d _ _ _ _ h=>by cases d <;> exact h) ?_
  obtain ⟨wx,hwx⟩:∃ wx,W8.drew=wx:=⟨_,rfl⟩
  rw [hwx]
  have HDX:Hid (Below W8.heap.size W8 wx):=Lib.hid (by rw [←hwx];exact ⟨rfl,rfl,rfl,Nat.le_refl _,fun _ _=>rfl⟩)
  clear hwx
  simp only [wpPlan,pick,nth]
  repeat (go_big_quiet_step (fail))
  refine wpQuiet_nil ?_
  clear s0 s1 s2 s3 s4 s5 s6 s7 s8 t0 t1 t2 t3 t4 t5
  intro K hK
  refine alone_want (by kernel_rfl) ?_
  go_big_op
  refine (HCK.out _ (HM8.out.keep HDX.out)).mono ?_
  rintro en w9 ⟨rfl,hb9⟩
  have HD9:=Lib.hid (HDX.out.trans (hb9.mono HDX.out.size))
  have HB9:=Lib.hid (HB8.out.trans (HD9.out.mono HB8.out.size))
  have HP9:=Lib.hid (HP8.out.below HD9.out)
  have HF9:=Lib.hid (HF8.out.keep HD9.out HSZ7.out)
  have HSZ9:Hid (w7.heap.size < w9.heap.size):=Lib.hid HF9.out.lt
  have HR7:Hid (R < w7.heap.size):=Lib.hid HP7.out.lt
  have HV7:Hid (∀ g,v.ownBlock=some g→g < w7.heap.size):=Lib.hid (fun g hg=>own_lt HP7.out.facts hg)
  refine hK _ _ (past_in HD9.out) ?_
  clear hK K hb9 HDX HD9 HB8 HP8 HF8 HM8 HSZ7 HP7 HK7
  repeat (go_big_quiet_step (fail))
  refine wpQuiet_nil ?_
  by_cases hce:CE=0
  rotate_left
  ·have HNN:Hid (E=CE):=HE3
   have hce':(CE != 0)=true:=by simp [hce]
   have HCE:=Lib.hid hce
   clear hce
   go_wp2
   go_ret
   exact ⟨by rw [HNN.out];rfl,HB9.out.mono HB0.out,fun h=>absurd (HNN.out.symm.trans h) HCE.out⟩
  subst hce
  have HNN:Hid (E=0):=HE3
  go_wp2_with fail
  obtain ⟨f0,f1,f2,f3,f4,f5⟩:=Fa.fact6 HF9.out
  simp only [Nat.zero_add] at f0 f1 f2 f3 f4 f5
  have hok:w7.heap.size≠R∧some w7.heap.size≠v.ownBlock:=⟨fun e0=>by have:=HR7.out;omega,fun e0=>by have:=HV7.out _ e0.symm;omega⟩
  have t0:=fun q:Leave (fun j=>j≠R∧some j≠v.ownBlock) w9=>cell_leave f0 hok q
  have t1:=fun q:Leave (fun j=>j≠R∧some j≠v.ownBlock) w9=>cell_leave f1 hok q
  have t2:=fun q:Leave (fun j=>j≠R∧some j≠v.ownBlock) w9=>cell_leave f2 hok q
  have t3:=fun q:Leave (fun j=>j≠R∧some j≠v.ownBlock) w9=>cell_leave f3 hok q
  have t4:=fun q:Leave (fun j=>j≠R∧some j≠v.ownBlock) w9=>cell_leave f4 hok q
  have t5:=fun q:Leave (fun j=>j≠R∧some j≠v.ownBlock) w9=>cell_leave f5 hok q
  clear f0 f1 f2 f3 f4 f5 hok
  refine wp_region_plan_if (S:=fun w'=>∃ q:Leave (fun j=>j≠R∧some j≠v.ownBlock) w9,w'=q.its) (.two [0,1,2,3,5] 4 (.one [] 6 (.one [] 7 (.one [8,9] 10 (.last [])))) 6 (.one [] 4 (.one [] 7 (.one [8,9] 10 (.last []))))) (by kernel_rfl) (by kernel_rfl) (fun d _ _ _ _ h=>by cases d <;> exact h) ⟨⟨w9.drew,fun _ _ _=>rfl⟩,rfl⟩ ?_
  obtain ⟨wz,hwz⟩:∃ wz,w9.drew=wz:=⟨_,rfl⟩
  rw [hwz]
  have HQ3:Hid (Below w9.heap.size w9 wz):=Lib.hid (by rw [←hwz];exact ⟨rfl,rfl,rfl,Nat.le_refl _,fun _ _=>rfl⟩)
  have HSZ:Hid (w9.heap.size≤wz.heap.size):=Lib.hid HQ3.out.size
  clear hwz
  have HPZ:=Lib.hid (HP9.out.below HQ3.out)
  have hba:=(HB9.out.mono HB0.out).trans (HQ3.out.mono (by have:=HB9.out.size;have:=HB0.out;omega))
  have HBA:=Lib.hid (hba.alloc (by have:=hba.size;have:=HB0.out;omega) (.cells #[.string EN,.string a,.string b,.string PP,.int .i64 MK,.int .i64 AV] 62))
  have HRA:=Lib.hid (HPZ.out.facts.alloc (.cells #[.string EN,.string a,.string b,.string PP,.int .i64 MK,.int .i64 AV] 62))
  have HEL:Hid (ElAt Fa.encF (wz.alloc (.cells #[.string EN,.string a,.string b,.string PP,.int .i64 MK,.int .i64 AV] 62)) wz.heap.size 0 ⟨⟨EN,a,b,PP,MK⟩,AV⟩):=Lib.hid (el_new Fa.encF wz ⟨⟨EN,a,b,PP,MK⟩,AV⟩ 62)
  obtain ⟨_,_,_,z12⟩:=HPZ.out.four
  obtain ⟨_,_,_,x12⟩:=(HPZ.out.below ((Below.refl wz.heap.size wz).alloc (Nat.le_refl _) (.cells #[.string EN,.string a,.string b,.string PP,.int .i64 MK,.int .i64 AV] 62))).four
  clear hba
  simp only [wpPlan,pick,nth]
  repeat (go_big_quiet_step (fail))
  refine wpQuiet_nil ?_
  clear t0 t1 t2 t3 t4 t5
  refine ⟨?_,?_⟩
  ·intro K hK
   refine alone_want (by kernel_rfl) ?_
   go_big_op
   refine hK _ _ (leave_in fun j _ hjl=>HQ3.out.block j hjl) ?_
   clear hK K
   refine wpQuiet_nil ?_
   intro K hK
   refine alone_want (by kernel_rfl) ?_
   go_big_op
   refine hK _ _ (leave_in fun j _ hjl=>(heap_alloc_old _ _ (by have:=HSZ.out;omega)).trans (HQ3.out.block j hjl)) ?_
   clear hK K
   refine wpQuiet_nil ?_
   intro K hK
   refine alone_want (by kernel_rfl) ?_
   refine wp_append_el (E:=Fa.encF) (.tmp 65) (.tmp 67) 41 62 rfl infoFs B v S.facts ⟨⟨EN,a,b,PP,MK⟩,AV⟩ wz.heap.size rfl HRA.out rfl HEL.out (by have:=HBA.out.size;have:=HB0.out;omega) HFL.out ?_
   intro v2 wa hr2 hb2 hg2
   obtain ⟨c12,fz12,hput⟩:=HPZ.out.put _ _ hg2 hr2
   have HPUT:=Lib.hid hput
   have HBW:=Lib.hid (HBA.out.trans hb2)
   have HG2:=Lib.hid hg2
   refine hK _ _ (leave_in fun j hj hjl=>?_) ?_
   ·rw [hg2.block j (by rw [World.size_alloc];have:=HSZ.out;omega) (fun e0=>hj.2 e0)]
    exact ((heap_alloc_old _ _ (by have:=HSZ.out;omega)).trans (HQ3.out.block j hjl))
   clear hK K hb2 hg2 hput
   obtain ⟨p2,q2,m2,hv2⟩:=own_sl hr2
   clear hr2
   subst hv2
   simp only [Act.put,List.setIfInBounds_toArray,List.set_cons_zero,List.set_cons_succ]
   repeat (go_big_quiet_step (fail))
   refine wpQuiet_nil ?_
   intro K hK
   refine alone_want (by kernel_rfl) ?_
   go_big_op
   refine hK _ _ (leave_in fun j hj hjl=>?_) ?_
   ·rw [Below.heap_setCell _ _ _ _ (fun e0=>hj.1 e0),HG2.out.block j (by rw [World.size_alloc];have:=HSZ.out;omega) (fun e0=>hj.2 e0)]
    exact ((heap_alloc_old _ _ (by have:=HSZ.out;omega)).trans (HQ3.out.block j hjl))
   clear hK K
   refine wpQuiet_nil ?_
   have HBF:=Lib.hid (HBW.out.setCell (p:=⟨R,12,none⟩) HP.out.geR (.slice p2 m2 q2))
   clear c12 fz12
   go_wp2
   go_ret
   exact ⟨by rw [HNN.out];rfl,HBF.out,fun _=>⟨D,_,HPUT.out.mono (Nat.le_succ _)⟩⟩
  ·intro K hK
   refine alone_want (by kernel_rfl) ?_
   go_big_op
   refine hK _ _ (leave_in fun j _ hjl=>(heap_alloc_old _ _ (by have:=HSZ.out;omega)).trans (HQ3.out.block j hjl)) ?_
   clear hK K
   refine wpQuiet_nil ?_
   intro K hK
   refine alone_want (by kernel_rfl) ?_
   go_big_op
   refine hK _ _ (leave_in fun j _ hjl=>(heap_alloc_old _ _ (by have:=HSZ.out;omega)).trans (HQ3.out.block j hjl)) ?_
   clear hK K
   refine wpQuiet_nil ?_
   intro K hK
   refine alone_want (by kernel_rfl) ?_
   refine wp_append_el (E:=Fa.encF) (.tmp 65) (.tmp 67) 41 62 rfl infoFs B v S.facts ⟨⟨EN,a,b,PP,MK⟩,AV⟩ wz.heap.size rfl HRA.out rfl HEL.out (by have:=HBA.out.size;have:=HB0.out;omega) HFL.out ?_
   intro v2 wa hr2 hb2 hg2
   obtain ⟨c12,fz12,hput⟩:=HPZ.out.put _ _ hg2 hr2
   have HPUT:=Lib.hid hput
   have HBW:=Lib.hid (HBA.out.trans hb2)
   have HG2:=Lib.hid hg2
   refine hK _ _ (leave_in fun j hj hjl=>?_) ?_
   ·rw [hg2.block j (by rw [World.size_alloc];have:=HSZ.out;omega) (fun e0=>hj.2 e0)]
    exact ((heap_alloc_old _ _ (by have:=HSZ.out;omega)).trans (HQ3.out.block j hjl))
   clear hK K hb2 hg2 hput
   obtain ⟨p2,q2,m2,hv2⟩:=own_sl hr2
   clear hr2
   subst hv2
   simp only [Act.put,List.setIfInBounds_toArray,List.set_cons_zero,List.set_cons_succ]
   repeat (go_big_quiet_step (fail))
   refine wpQuiet_nil ?_
   intro K hK
   refine alone_want (by kernel_rfl) ?_
   go_big_op
   refine hK _ _ (leave_in fun j hj hjl=>?_) ?_
   ·rw [Below.heap_setCell _ _ _ _ (fun e0=>hj.1 e0),HG2.out.block j (by rw [World.size_alloc];have:=HSZ.out;omega) (fun e0=>hj.2 e0)]
    exact ((heap_alloc_old _ _ (by have:=HSZ.out;omega)).trans (HQ3.out.block j hjl))
   clear hK K
   refine wpQuiet_nil ?_
   have HBF:=Lib.hid (HBW.out.setCell (p:=⟨R,12,none⟩) HP.out.geR (.slice p2 m2 q2))
   clear c12 fz12
   go_wp2
   go_ret
   exact ⟨by rw [HNN.out];rfl,HBF.out,fun _=>⟨D,_,HPUT.out.mono (Nat.le_succ _)⟩⟩
end Go.Proofs.YtfhhihamndbcnaaGreatDoor.Pk
end
