/- UnitCheck UnitCheckL UnitCheckA -/
import Derived.Test.YtfhhihamndbcnaaGreatDoorR14
import Derived.Test.YtfhhihamndbcnaaGreatDoorR26
section
namespace Go.Proofs.YtfhhihamndbcnaaGreatDoor.Un
open Go.RowKit
abbrev cellsR (r:Role):Array Value:=#[.string r.head,.string r.code,.int .i64 r.cls]
theorem all_no {α:Type} {p:α→Bool} {L:List α} {i:Nat} {x:α} (hx:L[i]?=some x) (h:p x=false):L.all p=false:=by
 rw [←Bool.not_eq_true,List.all_eq_true]
 intro h'
 rw [h' x (List.mem_of_getElem? hx)] at h;cases h
theorem all_yes {α:Type} {p:α→Bool} {L:List α} (h:∀ (i:Nat) (x:α),L[i]?=some x→p x=true):L.all p=true:=by
 rw [List.all_eq_true]
 intro x hx
 obtain ⟨i,hi,e⟩:=List.getElem_of_mem hx
 exact h i x (by rw [List.getElem?_eq_getElem hi,e])
structure SoFar {α:Type} (p:α→Bool) (L:List α) (i:Nat):Prop where
 all:∀ (j:Nat) (x:α),j < i→L[j]?=some x→p x=true
theorem SoFar.zero {α:Type} (p:α→Bool) (L:List α):SoFar p L 0:=⟨fun _ _ h=>absurd h (Nat.not_lt_zero _)⟩
theorem SoFar.next {α:Type} {p:α→Bool} {L:List α} {i:Nat} {x:α} (h:SoFar p L i) (hx:L[i]?=some x) (hp:p x=true):SoFar p L (i+1) :=
 ⟨fun j y hj hy=>by
  rcases Nat.lt_or_ge j i with h' | h'
  ·exact h.all j y h' hy
  ·obtain rfl:j=i:=by omega
   rw [hx] at hy;cases hy;exact hp⟩
theorem SoFar.done {α:Type} {p:α→Bool} {L:List α} {n:Nat} (h:SoFar p L n) (hn:L.length≤n):L.all p=true :=
 all_yes fun i x hx=>h.all i x (by have:=(List.getElem?_eq_some_iff.1 hx).1;omega) hx
set_option maxRecDepth 100000 in
set_option maxHeartbeats 4000000 in
theorem rolesNamed_any (c f e l:Value) (M:Mast) (w:World) (h:MastIn w c f e l M) :
 Calls Tryz.prog 81 #[aggM c f e l M] w fun en w'=>en=.returned (.bool (rolesN M))∧Below w.heap.size w w':=by
 have HB0:=Lib.hid ((Below.refl w.heap.size w).alloc (Nat.le_refl _) (.cells (cellsM c f e l M) 31))
 have HN0:=Lib.hid (nine_new w c f e l M 31)
 have HC0:=Lib.hid (h.chart.keep HB0.out)
 have HRA:=Lib.hid (roles_any c f e l M)
 obtain ⟨r,hr⟩:∃ r,rolesN M=r:=⟨_,rfl⟩
 have HR:Hid ((rolesOf M).all (fun r=>hasA M.chart r.code)=r):=Lib.hid (by rw [rolesN_all];exact hr)
 rw [hr]
 clear hr h
 obtain ⟨c0,c1,c2,c3,c4,c5,c6,c7,c8⟩:=HN0.out
 go_enter Tryz.func81,Tryz.ntmps81
 go_wp2_with fail
 refine (HRA.out _).mono ?_
 rintro en w1 ⟨g,rfl,hrv,hb1⟩
 have HN1:=Lib.hid (HN0.out.kept hb1)
 have HC1:=Lib.hid (HC0.out.keep hb1)
 have HB1:=Lib.hid (HB0.out.trans (hb1.mono HB0.out.size))
 obtain ⟨p,cp,e1,_,_,_,hc⟩:=hrv
 cases e1
 have HRV:=Lib.hid hc
 clear hc hb1 c0 c1 c2 c3 c4 c5 c6 c7 c8
 go_wp2
 go_loopw [10] (fun s10 wr=>∃ i:Nat,i≤4∧s10=.int .i64 (i:Int)∧Hid (Below w1.heap.size w1 wr)∧Hid (SoFar (fun r:Role=>hasA M.chart r.code) (rolesOf M) i)) (fun s10 _=>4 - (intOf s10).toNat)
 case atStart=>exact ⟨0,by omega,rfl,Lib.hid (Below.refl _ _),Lib.hid (SoFar.zero _ _)⟩
 case round =>
  obtain ⟨i,hi,rfl,HBR,HSF⟩:=hrel
  by_cases hlt:i < 4
  ·obtain ⟨x,hx⟩:∃ x,(rolesOf M)[i]?=some x:=⟨_,List.getElem?_eq_getElem (by simp [rolesOf];omega)⟩
   obtain ⟨b,o,e2,hat⟩:=HRV.out i x hx
   cases e2
   obtain ⟨d0,d1,d2⟩:=role3 (hat.keep HBR.out hat.lt)
   have hbx:=HBR.out.alloc HBR.out.size (.cells (cellsR x) 223)
   have HBX:=Lib.hid hbx
   have HC2:=Lib.hid (HC1.out.keep hbx)
   obtain ⟨k0,k1,k2,k3,k4,k5,k6,k7,k8⟩:=HN1.out.kept hbx
   obtain ⟨q0,q1,q2⟩:=role3 (BoxE.new encR wr x 223).at0
   have HX:=Lib.hid hx
   clear hat hx hbx
   simp only [Nat.zero_add] at d0 d1 d2
   go_wp2_with fail
   clear k0 k1 k2 k3 k4 k5 k6 k7 k8 q0 q1 q2 d0 d1 d2
   refine (Go.Proofs.YtfhhihamndbcnaaGreatDoor.find_any _ M.chart x.code _ HC2.out).mono ?_
   rintro en w3 ⟨rfl,hb3⟩
   obtain ⟨fa,hfa⟩:∃ fa,findV (findL M.chart x.code)=fa:=⟨_,rfl⟩
   obtain ⟨s,hs⟩:∃ s,(findL M.chart x.code).isSome=s:=⟨_,rfl⟩
   rw [hfa,hs]
   have HSV:Hid (hasA M.chart x.code=s):=Lib.hid hs
   have HB4:=Lib.hid ((HBX.out.trans (hb3.mono HBX.out.size)).alloc (Nat.le_trans HBX.out.size hb3.size) (.cells #[.string fa.code,.int .i64 fa.cls,.bool fa.cash,.bool fa.both,.string fa.fixed,.bool fa.worn] 199))
   clear hs hfa hb3
   cases s with
   | false =>
     have HRF:Hid (r=false):=Lib.hid (by rw [←HR.out];exact all_no HX.out HSV.out)
     go_wp2
     go_ret
     exact ⟨by rw [HRF.out];rfl,HB1.out.trans (HB4.out.mono HB1.out.size)⟩
   | true =>
     have HSN:=Lib.hid (HSF.out.next HX.out HSV.out)
     go_wp2
     go_roundw
     case rel=>exact ⟨i+1,by omega,by go_num,HB4,HSN⟩
     case measure=>simp [intOf];omega
  ·have HRT:Hid (r=true):=Lib.hid (by rw [←HR.out];exact HSF.out.done (by simp [rolesOf];omega))
   go_wp2
   go_ret
   exact ⟨by rw [HRT.out];rfl,HB1.out.trans (HBR.out.mono HB1.out.size)⟩
set_option maxRecDepth 100000 in
set_option maxHeartbeats 4000000 in
theorem rolesPlain_any (c f e l:Value) (M:Mast) (w:World) (h:MastIn w c f e l M) :
 Calls Tryz.prog 84 #[aggM c f e l M] w fun en w'=>en=.returned (.bool (rolesP M))∧Below w.heap.size w w':=by
 have HB0:=Lib.hid ((Below.refl w.heap.size w).alloc (Nat.le_refl _) (.cells (cellsM c f e l M) 31))
 have HN0:=Lib.hid (nine_new w c f e l M 31)
 have HC0:=Lib.hid (h.chart.keep HB0.out)
 have HRA:=Lib.hid (roles_any c f e l M)
 obtain ⟨r,hr⟩:∃ r,rolesP M=r:=⟨_,rfl⟩
 have HR:Hid ((rolesOf M).all (fun r=>plainA M.chart r.code r.cls)=r):=Lib.hid (by rw [rolesP_all];exact hr)
 rw [hr]
 clear hr h
 obtain ⟨c0,c1,c2,c3,c4,c5,c6,c7,c8⟩:=HN0.out
 go_enter Tryz.func84,Tryz.ntmps84
 go_wp2_with fail
 refine (HRA.out _).mono ?_
 rintro en w1 ⟨g,rfl,hrv,hb1⟩
 have HN1:=Lib.hid (HN0.out.kept hb1)
 have HC1:=Lib.hid (HC0.out.keep hb1)
 have HB1:=Lib.hid (HB0.out.trans (hb1.mono HB0.out.size))
 obtain ⟨p,cp,e1,_,_,_,hc⟩:=hrv
 cases e1
 have HRV:=Lib.hid hc
 clear hc hb1 c0 c1 c2 c3 c4 c5 c6 c7 c8
 go_wp2
 go_loopw [10] (fun s10 wr=>∃ i:Nat,i≤4∧s10=.int .i64 (i:Int)∧Hid (Below w1.heap.size w1 wr)∧Hid (SoFar (fun r:Role=>plainA M.chart r.code r.cls) (rolesOf M) i)) (fun s10 _=>4 - (intOf s10).toNat)
 case atStart=>exact ⟨0,by omega,rfl,Lib.hid (Below.refl _ _),Lib.hid (SoFar.zero _ _)⟩
 case round =>
  obtain ⟨i,hi,rfl,HBR,HSF⟩:=hrel
  by_cases hlt:i < 4
  ·obtain ⟨x,hx⟩:∃ x,(rolesOf M)[i]?=some x:=⟨_,List.getElem?_eq_getElem (by simp [rolesOf];omega)⟩
   obtain ⟨b,o,e2,hat⟩:=HRV.out i x hx
   cases e2
   obtain ⟨d0,d1,d2⟩:=role3 (hat.keep HBR.out hat.lt)
   have hbx:=HBR.out.alloc HBR.out.size (.cells (cellsR x) 223)
   have HBX:=Lib.hid hbx
   have HC2:=Lib.hid (HC1.out.keep hbx)
   obtain ⟨k0,k1,k2,k3,k4,k5,k6,k7,k8⟩:=HN1.out.kept hbx
   obtain ⟨q0,q1,q2⟩:=role3 (BoxE.new encR wr x 223).at0
   have HX:=Lib.hid hx
   clear hat hx hbx
   simp only [Nat.zero_add] at d0 d1 d2
   go_wp2_with fail
   clear k0 k1 k2 k3 k4 k5 k6 k7 k8 q0 q1 q2 d0 d1 d2
   refine (Go.Proofs.YtfhhihamndbcnaaGreatDoor.find_any _ M.chart x.code _ HC2.out).mono ?_
   rintro en w3 ⟨rfl,hb3⟩
   obtain ⟨fa,hfa⟩:∃ fa,findV (findL M.chart x.code)=fa:=⟨_,rfl⟩
   obtain ⟨s,hs⟩:∃ s,(findL M.chart x.code).isSome=s:=⟨_,rfl⟩
   rw [hfa,hs]
   have HSV:Hid (plainA M.chart x.code x.cls=eqA fa ⟨x.code,x.cls,false,false,emp,false⟩):=Lib.hid (by rw [←hfa];rfl)
   have HB4:=Lib.hid ((HBX.out.trans (hb3.mono HBX.out.size)).alloc (Nat.le_trans HBX.out.size hb3.size) (.cells #[.string fa.code,.int .i64 fa.cls,.bool fa.cash,.bool fa.both,.string fa.fixed,.bool fa.worn] 199))
   have hb4:=hb3.alloc hb3.size (.cells #[.string fa.code,.int .i64 fa.cls,.bool fa.cash,.bool fa.both,.string fa.fixed,.bool fa.worn] 199)
   obtain ⟨q0,q1,q2⟩:=role3 ((BoxE.new encR wr x 223).kept hb4).at0
   obtain ⟨z0,z1,z2,z3,z4,z5⟩:=(BoxA.new w3 fa 199).facts
   have hq:=neq_acc fa ⟨x.code,x.cls,false,false,emp,false⟩
   have hgd:=guard_acc
   obtain ⟨ea,hea⟩:∃ ea,eqA fa ⟨x.code,x.cls,false,false,emp,false⟩=ea:=⟨_,rfl⟩
   rw [hea] at HSV
   simp only [hea] at hq
   clear hs hfa hb3 hb4 hea
   cases ea with
   | false =>
     have HRF:Hid (r=false):=Lib.hid (by rw [←HR.out];exact all_no HX.out HSV.out)
     go_wp2
     go_ret
     exact ⟨by rw [HRF.out];rfl,HB1.out.trans (HB4.out.mono HB1.out.size)⟩
   | true =>
     have HSN:=Lib.hid (HSF.out.next HX.out HSV.out)
     go_wp2
     go_roundw
     case rel=>exact ⟨i+1,by omega,by go_num,HB4,HSN⟩
     case measure=>simp [intOf];omega
  ·have HRT:Hid (r=true):=Lib.hid (by rw [←HR.out];exact HSF.out.done (by simp [rolesOf];omega))
   go_wp2
   go_ret
   exact ⟨by rw [HRT.out];rfl,HB1.out.trans (HBR.out.mono HB1.out.size)⟩
end Go.Proofs.YtfhhihamndbcnaaGreatDoor.Un
end
section
namespace Go.Proofs.YtfhhihamndbcnaaGreatDoor.Un
open Go.RowKit
set_option maxRecDepth 100000 in
set_option maxHeartbeats 4000000 in
theorem linesNamed_any (c f e l:Value) (M:Mast) (w:World) (h:MastIn w c f e l M) (hri:riseK Fl.Flow.code M.flows=true) (hfl:M.flows.length≤1000) :
 Calls Tryz.prog 82 #[aggM c f e l M] w fun en w'=>en=.returned (.bool (linesN M))∧Below w.heap.size w w':=by
 have HB0:=Lib.hid ((Below.refl w.heap.size w).alloc (Nat.le_refl _) (.cells (cellsM c f e l M) 31))
 have HN0:=Lib.hid (nine_new w c f e l M 31)
 have HM0:=Lib.hid (h.keep HB0.out)
 have HRI:=Lib.hid hri
 have HFL:=Lib.hid hfl
 obtain ⟨r,hr⟩:∃ r,linesN M=r:=⟨_,rfl⟩
 have HR:Hid (M.lines.all (lineN M)=r):=Lib.hid hr
 rw [hr]
 clear hr h hri hfl
 obtain ⟨W,hW⟩:∃ W,w.alloc (.cells (cellsM c f e l M) 31)=W:=⟨_,rfl⟩
 rw [hW] at HB0 HN0 HM0
 obtain ⟨pl,cl,el,hlc,hlm,_,hlv⟩:=HM0.out.lines
 subst el
 obtain ⟨n,hn⟩:∃ n,M.lines.length=n:=⟨_,rfl⟩
 rw [hn] at hlc
 have HN:=Lib.hid hn
 have HLV:=Lib.hid hlv
 unfold maxLen at hlm
 rw [hn] at HN0 HM0 ⊢
 rw [hn] at hW
 clear hlv hn
 obtain ⟨c0,c1,c2,c3,c4,c5,c6,c7,c8⟩:=HN0.out
 go_enter Tryz.func82,Tryz.ntmps82
 go_wp2
 clear c0 c1 c2 c3 c4 c5 c6 c7 c8 hW
 go_loopw [12] (fun s12 wr=>∃ i:Nat,i≤n∧s12=.int .i64 (i:Int)∧Hid (Below W.heap.size W wr)∧Hid (SoFar (lineN M) M.lines i)) (fun s12 _=>n - (intOf s12).toNat)
 case atStart=>exact ⟨0,Nat.zero_le _,rfl,Lib.hid (Below.refl _ _),Lib.hid (SoFar.zero _ _)⟩
 case round =>
  obtain ⟨i,hi,rfl,HBR,HSF⟩:=hrel
  by_cases hlt:i < n
  ·obtain ⟨x,hx⟩:∃ x,M.lines[i]?=some x:=⟨_,List.getElem?_eq_getElem (by rw [HN.out];exact hlt)⟩
   obtain ⟨b,o,rfl,hat⟩:=HLV.out i x hx
   obtain ⟨d0,d1,d2⟩:=lin3 (hat.keep HBR.out hat.lt)
   have hbx:=HBR.out.alloc HBR.out.size (.cells #[.string x.acc,.string x.flow,.string x.goal] 217)
   have HBX:=Lib.hid hbx
   have HM2:=Lib.hid (HM0.out.keep hbx)
   have HN2:=Lib.hid (HN0.out.kept hbx)
   have HX2:=Lib.hid (BoxE.new encL wr x 217)
   obtain ⟨k0,k1,k2,k3,k4,k5,k6,k7,k8⟩:=HN2.out
   obtain ⟨q0,q1,q2⟩:=lin3 HX2.out.at0
   have HX:=Lib.hid hx
   clear hat hx hbx
   go_wp2_with fail
   clear k0 k1 k2 k3 k4 k5 k6 k7 k8 q0 q1 q2 d0 d1 d2
   refine (Go.Proofs.YtfhhihamndbcnaaGreatDoor.find_any _ M.chart x.acc _ HM2.out.chart).mono ?_
   rintro en w3 ⟨rfl,hb3⟩
   obtain ⟨fa,hfa⟩:∃ fa,findV (findL M.chart x.acc)=fa:=⟨_,rfl⟩
   obtain ⟨s,hs⟩:∃ s,(findL M.chart x.acc).isSome=s:=⟨_,rfl⟩
   rw [hfa,hs]
   have HSV:Hid (hasA M.chart x.acc=s):=Lib.hid hs
   have hb4:=hb3.alloc hb3.size (.cells #[.string fa.code,.int .i64 fa.cls,.bool fa.cash,.bool fa.both,.string fa.fixed,.bool fa.worn] 199)
   have HB4:=Lib.hid (HBX.out.trans (hb4.mono HBX.out.size))
   have HM4:=Lib.hid (HM2.out.keep hb4)
   obtain ⟨k0,k1,k2,k3,k4,k5,k6,k7,k8⟩:=HN2.out.kept hb4
   obtain ⟨q0,q1,q2⟩:=lin3 (HX2.out.kept hb4).at0
   clear hs hfa hb3 hb4 HM2 HN2 HX2 HBX
   go_wp2_with fail
   clear k0 k1 k2 k3 k4 k5 k6 k7 k8 q0 q1 q2
   refine (Fl.kind_any _ M.flows x.flow _ HM4.out.flows HRI.out HFL.out).mono ?_
   rintro en w5 ⟨rfl,hb5⟩
   obtain ⟨kd,hkd⟩:∃ kd,Fl.kindL M.flows x.flow=kd:=⟨_,rfl⟩
   obtain ⟨s2,hs2⟩:∃ s2,isK Fl.Flow.code M.flows x.flow=s2:=⟨_,rfl⟩
   rw [hkd,hs2]
   have HSW:Hid (lineN M x=(s && s2)):=Lib.hid (by unfold lineN;rw [HSV.out,hs2])
   have HB5:=Lib.hid (HB4.out.trans (hb5.mono HB4.out.size))
   clear hkd hs2 hb5 HB4 HM4
   cases s with
   | false =>
     have HRF:Hid (r=false):=Lib.hid (by rw [←HR.out];exact all_no HX.out (by rw [HSW.out];rfl))
     go_wp2
     go_ret
     exact ⟨by rw [HRF.out];rfl,HB0.out.trans (HB5.out.mono HB0.out.size)⟩
   | true =>
     cases s2 with
     | false =>
       have HRF:Hid (r=false):=Lib.hid (by rw [←HR.out];exact all_no HX.out (by rw [HSW.out];rfl))
       go_wp2
       go_ret
       exact ⟨by rw [HRF.out];rfl,HB0.out.trans (HB5.out.mono HB0.out.size)⟩
     | true =>
       have HSN:=Lib.hid (HSF.out.next HX.out (by rw [HSW.out];rfl))
       go_wp2
       go_roundw
       case rel=>exact ⟨i+1,by omega,by go_num,HB5,HSN⟩
       case measure=>simp [intOf];omega
  ·have HRT:Hid (r=true):=Lib.hid (by rw [←HR.out];exact HSF.out.done (by rw [HN.out];omega))
   go_wp2
   go_ret
   exact ⟨by rw [HRT.out];rfl,HB0.out.trans (HBR.out.mono HB0.out.size)⟩
end Go.Proofs.YtfhhihamndbcnaaGreatDoor.Un
end
section
namespace Go.Proofs.YtfhhihamndbcnaaGreatDoor.Un
open Go.RowKit
theorem allE_of (M:Mast):allE M=if (decide (M.cur=emp) || !rolesN M || !linesN M)=true then 6 else if Fl.wholeF M.flows=false then 8 else if rolesP M=false then 15 else 0:=rfl
theorem emp_iff (s:ByteArray):s.toList.isEmpty=decide (s=emp):=by
 rw [Bool.eq_iff_iff,decide_eq_true_eq]
 have:=neB_iff s
 unfold neB at this
 cases h:s.toList.isEmpty with
 | false=>rw [h] at this;simp at this;simp [this]
 | true=>rw [h] at this;simp at this;simp [this]
set_option maxRecDepth 100000 in
set_option maxHeartbeats 4000000 in
theorem check_any (c f e l:Value) (M:Mast) (w:World) (h:MastIn w c f e l M) (hri:riseK Fl.Flow.code M.flows=true) (hfl:M.flows.length≤1000) :
 Calls Tryz.prog 52 #[aggM c f e l M] w fun en w'=>en=.returned (.int .i64 (allE M))∧Below w.heap.size w w':=by
 have HB0:=Lib.hid ((Below.refl w.heap.size w).alloc (Nat.le_refl _) (.cells (cellsM c f e l M) 31))
 have HN0:=Lib.hid (nine_new w c f e l M 31)
 have HM0:=Lib.hid (h.keep HB0.out)
 have HA:=Lib.hid (fun W hW=>rolesNamed_any c f e l M W hW)
 have HB:=Lib.hid (fun W hW=>linesNamed_any c f e l M W hW hri hfl)
 have HC:=Lib.hid (fun W hW=>rolesPlain_any c f e l M W hW)
 have HD:=Lib.hid (fun v W hW=>Fl.whole_any v M.flows W hW hfl)
 have hall:=allE_of M
 obtain ⟨E,hE⟩:∃ E,allE M=E:=⟨_,rfl⟩
 obtain ⟨a,ha⟩:∃ a,rolesN M=a:=⟨_,rfl⟩
 obtain ⟨b,hb⟩:∃ b,linesN M=b:=⟨_,rfl⟩
 obtain ⟨p,hp⟩:∃ p,rolesP M=p:=⟨_,rfl⟩
 obtain ⟨q,hq⟩:∃ q,Fl.wholeF M.flows=q:=⟨_,rfl⟩
 simp only [ha] at HA
 simp only [hb] at HB
 simp only [hp] at HC
 simp only [hq] at HD
 rw [hE,ha,hb,hp,hq] at hall
 rw [hE]
 have HALL:=Lib.hid hall
 clear hall hE ha hb hp hq h hri hfl
 obtain ⟨c0,c1,c2,c3,c4,c5,c6,c7,c8⟩:=HN0.out
 by_cases hcur:M.cur=emp
 ·have HE6:Hid (E=6):=Lib.hid (by rw [HALL.out,decide_eq_true hcur];rfl)
  have hc:M.cur.toList.isEmpty=true:=by rw [emp_iff];exact decide_eq_true hcur
  clear hcur
  go_enter Tryz.func52,Tryz.ntmps52
  go_wp2
  go_ret
  exact ⟨by rw [HE6.out];rfl,HB0.out⟩
 ·have hc:M.cur.toList.isEmpty=false:=by rw [emp_iff];exact decide_eq_false hcur
  rw [decide_eq_false hcur] at HALL
  clear hcur
  go_enter Tryz.func52,Tryz.ntmps52
  go_wp2_with fail
  clear c0 c1 c2 c3 c4 c5 c6 c7 c8
  refine (HA.out _ HM0.out).mono ?_
  rintro en w1 ⟨rfl,hb1⟩
  have HB1:=Lib.hid (HB0.out.trans (hb1.mono HB0.out.size))
  have HN1:=Lib.hid (HN0.out.kept hb1)
  have HM1:=Lib.hid (HM0.out.keep hb1)
  obtain ⟨c0,c1,c2,c3,c4,c5,c6,c7,c8⟩:=HN1.out
  clear hb1
  cases a with
  | false =>
    have HE6:Hid (E=6):=Lib.hid (by rw [HALL.out];rfl)
    go_wp2
    go_ret
    exact ⟨by rw [HE6.out];rfl,HB1.out⟩
  | true =>
    go_wp2_with fail
    clear c0 c1 c2 c3 c4 c5 c6 c7 c8
    refine (HB.out _ HM1.out).mono ?_
    rintro en w2 ⟨rfl,hb2⟩
    have HB2:=Lib.hid (HB1.out.trans (hb2.mono HB1.out.size))
    have HN2:=Lib.hid (HN1.out.kept hb2)
    have HM2:=Lib.hid (HM1.out.keep hb2)
    obtain ⟨c0,c1,c2,c3,c4,c5,c6,c7,c8⟩:=HN2.out
    clear hb2
    cases b with
    | false =>
      have HE6:Hid (E=6):=Lib.hid (by rw [HALL.out];rfl)
      go_wp2
      go_ret
      exact ⟨by rw [HE6.out];rfl,HB2.out⟩
    | true =>
      go_wp2_with fail
      clear c0 c1 c2 c3 c4 c5 c6 c7 c8
      refine (HD.out _ _ HM2.out.flows).mono ?_
      rintro en w3 ⟨rfl,hb3⟩
      have HB3:=Lib.hid (HB2.out.trans (hb3.mono HB2.out.size))
      have HN3:=Lib.hid (HN2.out.kept hb3)
      have HM3:=Lib.hid (HM2.out.keep hb3)
      obtain ⟨c0,c1,c2,c3,c4,c5,c6,c7,c8⟩:=HN3.out
      clear hb3
      cases q with
      | false =>
        have HE6:Hid (E=8):=Lib.hid (by rw [HALL.out];rfl)
        go_wp2
        go_ret
        exact ⟨by rw [HE6.out];rfl,HB3.out⟩
      | true =>
        go_wp2_with fail
        clear c0 c1 c2 c3 c4 c5 c6 c7 c8
        refine (HC.out _ HM3.out).mono ?_
        rintro en w4 ⟨rfl,hb4⟩
        have HB4:=Lib.hid (HB3.out.trans (hb4.mono HB3.out.size))
        clear hb4
        cases p with
        | false =>
          have HE6:Hid (E=15):=Lib.hid (by rw [HALL.out];rfl)
          go_wp2
          go_ret
          exact ⟨by rw [HE6.out];rfl,HB4.out⟩
        | true =>
          have HE6:Hid (E=0):=Lib.hid (by rw [HALL.out];rfl)
          go_wp2
          go_ret
          exact ⟨by rw [HE6.out];rfl,HB4.out⟩
end Go.Proofs.YtfhhihamndbcnaaGreatDoor.Un
end
