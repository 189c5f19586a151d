/- UnitCheckL UnitCheckA LexCut LexIter LexLines UnitParse UnitKeepE -/
import Derived.LoopIn
import Derived.LoopNIn
import Derived.OwnWalkIn
import Derived.RangeFuncBound
import Derived.RangeFuncCalls
import Derived.RangeFuncLeaves
import Derived.RangeFuncNested
import Derived.Shelf.Abstract
import Derived.Shelf.RegionOpen
import Derived.TacticsInMore
import Derived.Test.YtdegffffcbhjbaaGreatDoorQ05
section
namespace Go.Proofs.YtdegffffcbhjbaaGreatDoor.Un
open Go.RowKit
set_option maxRecDepth 100000 in
set_option maxHeartbeats 4000000 in
theorem linesNamed_any (c f e l:Value) (M:Mast) (w:World) (h:MastIn w c f e l M) (hri:riseK Fl.Flow.code M.flows=true) (hfl:M.flows.length≤1000) :
 Calls Tryz.prog 70 #[aggM c f e l M] w fun en w'=>en=.returned (.bool (linesN M))∧Below w.heap.size w w':=by
 have HB0:=Lib.hid ((Below.refl w.heap.size w).alloc (Nat.le_refl _) (.cells (cellsM c f e l M) 30))
 have HN0:=Lib.hid (nine_new w c f e l M 30)
 have HM0:=Lib.hid (h.keep HB0.out)
 have HRI:=Lib.hid hri
 have HFL:=Lib.hid hfl
 obtain ⟨r,hr⟩:∃ r,linesN M=r:=⟨_,rfl⟩
 have HR:Hid (M.lines.all (lineN M)=r):=Lib.hid hr
 rw [hr]
 clear hr h hri hfl
 obtain ⟨W,hW⟩:∃ W,w.alloc (.cells (cellsM c f e l M) 30)=W:=⟨_,rfl⟩
 rw [hW] at HB0 HN0 HM0
 obtain ⟨pl,cl,el,hlc,hlm,_,hlv⟩:=HM0.out.lines
 subst el
 obtain ⟨n,hn⟩:∃ n,M.lines.length=n:=⟨_,rfl⟩
 rw [hn] at hlc
 have HN:=Lib.hid hn
 have HLV:=Lib.hid hlv
 unfold maxLen at hlm
 rw [hn] at HN0 HM0 ⊢
 rw [hn] at hW
 clear hlv hn
 obtain ⟨c0,c1,c2,c3,c4,c5,c6,c7,c8⟩:=HN0.out
 go_enter Tryz.func70,Tryz.ntmps70
 go_wp2
 clear c0 c1 c2 c3 c4 c5 c6 c7 c8 hW
 go_loopw [12] (fun s12 wr=>∃ i:Nat,i≤n∧s12=.int .i64 (i:Int)∧Hid (Below W.heap.size W wr)∧Hid (SoFar (lineN M) M.lines i)) (fun s12 _=>n - (intOf s12).toNat)
 case atStart=>exact ⟨0,Nat.zero_le _,rfl,Lib.hid (Below.refl _ _),Lib.hid (SoFar.zero _ _)⟩
 case round =>
  obtain ⟨i,hi,rfl,HBR,HSF⟩:=hrel
  by_cases hlt:i < n
  ·obtain ⟨x,hx⟩:∃ x,M.lines[i]?=some x:=⟨_,List.getElem?_eq_getElem (by rw [HN.out];exact hlt)⟩
   obtain ⟨b,o,rfl,hat⟩:=HLV.out i x hx
   obtain ⟨d0,d1,d2⟩:=lin3 (hat.keep HBR.out hat.lt)
   have hbx:=HBR.out.alloc HBR.out.size (.cells #[.string x.acc,.string x.flow,.string x.goal] 207)
   have HBX:=Lib.hid hbx
   have HM2:=Lib.hid (HM0.out.keep hbx)
   have HN2:=Lib.hid (HN0.out.kept hbx)
   have HX2:=Lib.hid (BoxE.new encL wr x 207)
   obtain ⟨k0,k1,k2,k3,k4,k5,k6,k7,k8⟩:=HN2.out
   obtain ⟨q0,q1,q2⟩:=lin3 HX2.out.at0
   have HX:=Lib.hid hx
   clear hat hx hbx
   go_wp2_with fail
   clear k0 k1 k2 k3 k4 k5 k6 k7 k8 q0 q1 q2 d0 d1 d2
   refine (Go.Proofs.YtdegffffcbhjbaaGreatDoor.find_any _ M.chart x.acc _ HM2.out.chart).mono ?_
   rintro en w3 ⟨rfl,hb3⟩
   obtain ⟨fa,hfa⟩:∃ fa,findV (findL M.chart x.acc)=fa:=⟨_,rfl⟩
   obtain ⟨s,hs⟩:∃ s,(findL M.chart x.acc).isSome=s:=⟨_,rfl⟩
   rw [hfa,hs]
   have HSV:Hid (hasA M.chart x.acc=s):=Lib.hid hs
   have hb4:=hb3.alloc hb3.size (.cells #[.string fa.code,.int .i64 fa.cls,.bool fa.cash,.bool fa.both,.string fa.fixed,.bool fa.worn] 99)
   have HB4:=Lib.hid (HBX.out.trans (hb4.mono HBX.out.size))
   have HM4:=Lib.hid (HM2.out.keep hb4)
   obtain ⟨k0,k1,k2,k3,k4,k5,k6,k7,k8⟩:=HN2.out.kept hb4
   obtain ⟨q0,q1,q2⟩:=lin3 (HX2.out.kept hb4).at0
   clear hs hfa hb3 hb4 HM2 HN2 HX2 HBX
   go_wp2_with fail
   clear k0 k1 k2 k3 k4 k5 k6 k7 k8 q0 q1 q2
   refine (Fl.kind_any _ M.flows x.flow _ HM4.out.flows HRI.out HFL.out).mono ?_
   rintro en w5 ⟨rfl,hb5⟩
   obtain ⟨kd,hkd⟩:∃ kd,Fl.kindL M.flows x.flow=kd:=⟨_,rfl⟩
   obtain ⟨s2,hs2⟩:∃ s2,isK Fl.Flow.code M.flows x.flow=s2:=⟨_,rfl⟩
   rw [hkd,hs2]
   have HSW:Hid (lineN M x=(s && s2)):=Lib.hid (by unfold lineN;rw [HSV.out,hs2])
   have HB5:=Lib.hid (HB4.out.trans (hb5.mono HB4.out.size))
   clear hkd hs2 hb5 HB4 HM4
   cases s with
   | false =>
     have HRF:Hid (r=false):=Lib.hid (by rw [←HR.out];exact all_no HX.out (by rw [HSW.out];rfl))
     go_wp2
     go_ret
     exact ⟨by rw [HRF.out];rfl,HB0.out.trans (HB5.out.mono HB0.out.size)⟩
   | true =>
     cases s2 with
     | false =>
       have HRF:Hid (r=false):=Lib.hid (by rw [←HR.out];exact all_no HX.out (by rw [HSW.out];rfl))
       go_wp2
       go_ret
       exact ⟨by rw [HRF.out];rfl,HB0.out.trans (HB5.out.mono HB0.out.size)⟩
     | true =>
       have HSN:=Lib.hid (HSF.out.next HX.out (by rw [HSW.out];rfl))
       go_wp2
       go_roundw
       case rel=>exact ⟨i+1,by omega,by go_num,HB5,HSN⟩
       case measure=>simp [intOf];omega
  ·have HRT:Hid (r=true):=Lib.hid (by rw [←HR.out];exact HSF.out.done (by rw [HN.out];omega))
   go_wp2
   go_ret
   exact ⟨by rw [HRT.out];rfl,HB0.out.trans (HBR.out.mono HB0.out.size)⟩
end Go.Proofs.YtdegffffcbhjbaaGreatDoor.Un
end
section
namespace Go.Proofs.YtdegffffcbhjbaaGreatDoor.Un
open Go.RowKit
theorem allE_of (M:Mast):allE M=if (decide (M.cur=emp) || !rolesN M || !linesN M)=true then 6 else if Fl.wholeF M.flows=false then 8 else if rolesP M=false then 15 else 0:=rfl
theorem emp_iff (s:ByteArray):s.toList.isEmpty=decide (s=emp):=by
 rw [Bool.eq_iff_iff,decide_eq_true_eq]
 have:=neB_iff s
 unfold neB at this
 cases h:s.toList.isEmpty with
 | false=>rw [h] at this;simp at this;simp [this]
 | true=>rw [h] at this;simp at this;simp [this]
set_option maxRecDepth 100000 in
set_option maxHeartbeats 4000000 in
theorem check_any (c f e l:Value) (M:Mast) (w:World) (h:MastIn w c f e l M) (hri:riseK Fl.Flow.code M.flows=true) (hfl:M.flows.length≤1000) :
 Calls Tryz.prog 45 #[aggM c f e l M] w fun en w'=>en=.returned (.int .i64 (allE M))∧Below w.heap.size w w':=by
 have HB0:=Lib.hid ((Below.refl w.heap.size w).alloc (Nat.le_refl _) (.cells (cellsM c f e l M) 30))
 have HN0:=Lib.hid (nine_new w c f e l M 30)
 have HM0:=Lib.hid (h.keep HB0.out)
 have HA:=Lib.hid (fun W hW=>rolesNamed_any c f e l M W hW)
 have HB:=Lib.hid (fun W hW=>linesNamed_any c f e l M W hW hri hfl)
 have HC:=Lib.hid (fun W hW=>rolesPlain_any c f e l M W hW)
 have HD:=Lib.hid (fun v W hW=>Fl.whole_any v M.flows W hW hfl)
 have hall:=allE_of M
 obtain ⟨E,hE⟩:∃ E,allE M=E:=⟨_,rfl⟩
 obtain ⟨a,ha⟩:∃ a,rolesN M=a:=⟨_,rfl⟩
 obtain ⟨b,hb⟩:∃ b,linesN M=b:=⟨_,rfl⟩
 obtain ⟨p,hp⟩:∃ p,rolesP M=p:=⟨_,rfl⟩
 obtain ⟨q,hq⟩:∃ q,Fl.wholeF M.flows=q:=⟨_,rfl⟩
 simp only [ha] at HA
 simp only [hb] at HB
 simp only [hp] at HC
 simp only [hq] at HD
 rw [hE,ha,hb,hp,hq] at hall
 rw [hE]
 have HALL:=Lib.hid hall
 clear hall hE ha hb hp hq h hri hfl
 obtain ⟨c0,c1,c2,c3,c4,c5,c6,c7,c8⟩:=HN0.out
 by_cases hcur:M.cur=emp
 ·have HE6:Hid (E=6):=Lib.hid (by rw [HALL.out,decide_eq_true hcur];rfl)
  have hc:M.cur.toList.isEmpty=true:=by rw [emp_iff];exact decide_eq_true hcur
  clear hcur
  go_enter Tryz.func45,Tryz.ntmps45
  go_wp2
  go_ret
  exact ⟨by rw [HE6.out];rfl,HB0.out⟩
 ·have hc:M.cur.toList.isEmpty=false:=by rw [emp_iff];exact decide_eq_false hcur
  rw [decide_eq_false hcur] at HALL
  clear hcur
  go_enter Tryz.func45,Tryz.ntmps45
  go_wp2_with fail
  clear c0 c1 c2 c3 c4 c5 c6 c7 c8
  refine (HA.out _ HM0.out).mono ?_
  rintro en w1 ⟨rfl,hb1⟩
  have HB1:=Lib.hid (HB0.out.trans (hb1.mono HB0.out.size))
  have HN1:=Lib.hid (HN0.out.kept hb1)
  have HM1:=Lib.hid (HM0.out.keep hb1)
  obtain ⟨c0,c1,c2,c3,c4,c5,c6,c7,c8⟩:=HN1.out
  clear hb1
  cases a with
  | false =>
    have HE6:Hid (E=6):=Lib.hid (by rw [HALL.out];rfl)
    go_wp2
    go_ret
    exact ⟨by rw [HE6.out];rfl,HB1.out⟩
  | true =>
    go_wp2_with fail
    clear c0 c1 c2 c3 c4 c5 c6 c7 c8
    refine (HB.out _ HM1.out).mono ?_
    rintro en w2 ⟨rfl,hb2⟩
    have HB2:=Lib.hid (HB1.out.trans (hb2.mono HB1.out.size))
    have HN2:=Lib.hid (HN1.out.kept hb2)
    have HM2:=Lib.hid (HM1.out.keep hb2)
    obtain ⟨c0,c1,c2,c3,c4,c5,c6,c7,c8⟩:=HN2.out
    clear hb2
    cases b with
    | false =>
      have HE6:Hid (E=6):=Lib.hid (by rw [HALL.out];rfl)
      go_wp2
      go_ret
      exact ⟨by rw [HE6.out];rfl,HB2.out⟩
    | true =>
      go_wp2_with fail
      clear c0 c1 c2 c3 c4 c5 c6 c7 c8
      refine (HD.out _ _ HM2.out.flows).mono ?_
      rintro en w3 ⟨rfl,hb3⟩
      have HB3:=Lib.hid (HB2.out.trans (hb3.mono HB2.out.size))
      have HN3:=Lib.hid (HN2.out.kept hb3)
      have HM3:=Lib.hid (HM2.out.keep hb3)
      obtain ⟨c0,c1,c2,c3,c4,c5,c6,c7,c8⟩:=HN3.out
      clear hb3
      cases q with
      | false =>
        have HE6:Hid (E=8):=Lib.hid (by rw [HALL.out];rfl)
        go_wp2
        go_ret
        exact ⟨by rw [HE6.out];rfl,HB3.out⟩
      | true =>
        go_wp2_with fail
        clear c0 c1 c2 c3 c4 c5 c6 c7 c8
        refine (HC.out _ HM3.out).mono ?_
        rintro en w4 ⟨rfl,hb4⟩
        have HB4:=Lib.hid (HB3.out.trans (hb4.mono HB3.out.size))
        clear hb4
        cases p with
        | false =>
          have HE6:Hid (E=15):=Lib.hid (by rw [HALL.out];rfl)
          go_wp2
          go_ret
          exact ⟨by rw [HE6.out];rfl,HB4.out⟩
        | true =>
          have HE6:Hid (E=0):=Lib.hid (by rw [HALL.out];rfl)
          go_wp2
          go_ret
          exact ⟨by rw [HE6.out];rfl,HB4.out⟩
end Go.Proofs.YtdegffffcbhjbaaGreatDoor.Un
end
section
namespace Go.Proofs.YtdegffffcbhjbaaGreatDoor
open Go.RowKit Go.Shelf
set_option maxHeartbeats 400000 in
theorem liteCut_miss (d:UInt8) (s:ByteArray) (w:World) (h:Lib.indexByte s.data.toList d=-1) :
 Calls Tryz.prog 124 #[.string s,.string ⟨#[d]⟩] w fun e w'=>e=.returned (.tuple #[.string s,.string ⟨#[]⟩,.bool false])∧w=w':=by
 have H:=Lib.hid h
 clear h
 go_enter Tryz.func124,Tryz.ntmps124
 go_wp2_with fail
 refine (Tryz.stringslite_Index_one s d _).mono ?_
 rintro e w' ⟨rfl,rfl⟩
 rw [H.out]
 go_wp2
 go_ret3
 exact ⟨rfl,rfl⟩
set_option maxHeartbeats 400000 in
theorem liteCut_hit (d:UInt8) (s:ByteArray) (i:Nat) (w:World) (h:Lib.indexByte s.data.toList d=(i:Int)) (hi:i < s.size) (hs:s.size≤maxLen) :
 Calls Tryz.prog 124 #[.string s,.string ⟨#[d]⟩] w fun e w'=>e=.returned (.tuple #[.string (s.extract 0 i),.string (s.extract (i+1) s.size),.bool true])∧∃ n,w'=w.drewN n:=by
 have H:=Lib.hid h
 clear h
 unfold maxLen at hs
 have c1:(0:Int)≤↑i:=by omega
 have c2:(↑i:Int)≤↑s.size:=by omega
 have c3:(0:Int)≤↑i+1:=by omega
 have c4:(↑i+1:Int)≤↑s.size:=by omega
 have c5:IntKind.i64.wrap (↑i+1)=↑i+1:=IntWalk.i64_in _ (by omega)
 have c6:((↑i:Int)+1).toNat=i+1:=by omega
 go_enter Tryz.func124,Tryz.ntmps124
 go_wp2_with fail
 refine (Tryz.stringslite_Index_one s d _).mono ?_
 rintro e w' ⟨rfl,rfl⟩
 rw [H.out]
 go_wp2
 go_region
 go_wp2
 go_ret3
 exact ⟨rfl,1,rfl⟩
set_option maxHeartbeats 400000 in
theorem cut_miss (d:UInt8) (s:ByteArray) (w:World) (h:Lib.indexByte s.data.toList d=-1) :
 Calls Tryz.prog 81 #[.string s,.string ⟨#[d]⟩] w fun e w'=>e=.returned (.tuple #[.string s,.string ⟨#[]⟩,.bool false])∧w=w':=by
 have H:=Lib.hid h
 clear h
 go_enter Tryz.func81,Tryz.ntmps81
 go_wp2_with fail
 refine (liteCut_miss d s _ H.out).mono ?_
 rintro e w' ⟨rfl,rfl⟩
 go_wp2
 go_ret3
 exact ⟨rfl,rfl⟩
set_option maxHeartbeats 400000 in
theorem cut_hit (d:UInt8) (s:ByteArray) (i:Nat) (w:World) (h:Lib.indexByte s.data.toList d=(i:Int)) (hi:i < s.size) (hs:s.size≤maxLen) :
 Calls Tryz.prog 81 #[.string s,.string ⟨#[d]⟩] w fun e w'=>e=.returned (.tuple #[.string (s.extract 0 i),.string (s.extract (i+1) s.size),.bool true])∧∃ n,w'=w.drewN n:=by
 have H:=Lib.hid h
 have HI:=Lib.hid hi
 have HS:=Lib.hid hs
 clear h hi hs
 go_enter Tryz.func81,Tryz.ntmps81
 go_wp2_with fail
 refine (liteCut_hit d s i _ H.out HI.out HS.out).mono ?_
 rintro e w' ⟨rfl,n,rfl⟩
 go_wp2
 go_ret3
 exact ⟨rfl,n,rfl⟩
def WordsPost (w:World) (ws:List ByteArray) (e:Ending) (w':World):Prop :=
 ∃ A,e=.returned (.slice (some ⟨A,0,none⟩) ws.length ws.length)∧w.heap.size≤A ∧
   w'.ownsRow w.heap.size 9 1 (.slice (some ⟨A,0,none⟩) ws.length ws.length) ws.length (ws.map Value.string)∧Below w.heap.size w w'
theorem between_pred (w:World):PredAtRunes Tryz.prog 83 #[] gapR w:=fun W x hx _ =>
 (between_any x W hx).mono fun _ _ ⟨he,hw⟩=>⟨he,0,hw.symm⟩
theorem fields_any (s:ByteArray) (w:World) (hs:s.size≤30000) (ha:∀ c∈s.data.toList,c.toNat < 128) :
 Calls Tryz.prog 82 #[.string s,.func (.func 83) #[] #[]] w (WordsPost w ((fieldsGo [] s.data.toList).map mkB)):=by
 rw [←fields_plain s ha]
 exact Tryz.strings_FieldsFunc_runes 83 #[] (enters_of Tryz.func83 (by kernel_rfl) rfl) gapR s w (by omega) (between_pred w)
theorem WordsPost.from {w w0:World} {ws:List ByteArray} {e:Ending} {w':World} (h:WordsPost w0 ws e w') (hb:Below w.heap.size w w0) (hz:w0.heap.size=w.heap.size):WordsPost w ws e w':=by
 obtain ⟨A,he,hA,ho,hb'⟩:=h
 rw [hz] at hA ho hb'
 exact ⟨A,he,hA,ho,hb.trans hb'⟩
set_option maxHeartbeats 400000 in
theorem wordsOf_any (s:ByteArray) (w:World) (hs:s.size≤30000) (ha:∀ c∈s.data.toList,c.toNat < 128) :
 Calls Tryz.prog 51 #[.string s] w (WordsPost w ((wordsL s.data.toList).map mkB)):=by
 rcases cut_cases 35 s.data.toList with ⟨h1,h2⟩ | ⟨i,h1,h2,h3,h4⟩
 ·have e0:wordsL s.data.toList=fieldsGo [] s.data.toList:=by unfold wordsL;rw [said_none _ h2]
  rw [e0]
  have H:=Lib.hid h1
  have HA:=Lib.hid ha
  have HF:=Lib.hid (fields_any s w hs ha)
  clear h1 h2 e0 ha
  obtain ⟨ws,hws⟩:∃ ws,(fieldsGo [] s.data.toList).map mkB=ws:=⟨_,rfl⟩
  rw [hws] at HF ⊢
  clear hws
  go_enter Tryz.func51,Tryz.ntmps51
  go_wp2_with fail
  refine (cut_miss 35 s _ H.out).mono ?_
  rintro e w' ⟨rfl,rfl⟩
  go_wp2_with fail
  refine HF.out.mono ?_
  rintro e w1 ⟨A,rfl,hA,ho,hb⟩
  go_wp2
  go_ret
  exact ⟨A,rfl,hA,ho,hb⟩
 ·have hi:i < s.size:=by rw [←size_list];exact h2
  have e0:wordsL s.data.toList=fieldsGo [] (s.data.toList.take i):=by
   unfold wordsL
   have:said s.data.toList=s.data.toList.take i:=by
    conv=>lhs;rw [h4]
    exact said_mark _ _ h3
   rw [this]
  rw [e0]
  have hx:(s.extract 0 i).data.toList=s.data.toList.take i:=by rw [piece_ahead,mkB_data]
  have hz:(s.extract 0 i).size≤30000:=by rw [←size_list,hx,List.length_take];have:=size_list s;omega
  have ha':∀ c∈(s.extract 0 i).data.toList,c.toNat < 128:=fun c hc=>ha c (by rw [hx] at hc;exact List.mem_of_mem_take hc)
  have HF:Hid (∀ n,Calls Tryz.prog 82 #[.string (s.extract 0 i),.func (.func 83) #[] #[]] (w.drewN n) (WordsPost w ((fieldsGo [] (s.data.toList.take i)).map mkB))):=Lib.hid fun n=>by
   have:=fields_any (s.extract 0 i) (w.drewN n) hz ha'
   rw [hx] at this
   exact this.mono fun e w' h=>h.from (below_drewN (Below.refl _ _) n) (by simp)
  have H:=Lib.hid h1
  have HI:=Lib.hid hi
  have HS:Hid (s.size≤maxLen):=Lib.hid (by unfold maxLen;omega)
  clear h1 h2 h3 h4 hi e0 hx hz ha' ha hs
  obtain ⟨ws,hws⟩:∃ ws,(fieldsGo [] (s.data.toList.take i)).map mkB=ws:=⟨_,rfl⟩
  rw [hws] at HF ⊢
  clear hws
  obtain ⟨u,hu⟩:∃ u,s.extract 0 i=u:=⟨_,rfl⟩
  obtain ⟨v,hv⟩:∃ v,s.extract (i+1) s.size=v:=⟨_,rfl⟩
  rw [hu] at HF
  have HU:=Lib.hid (And.intro hu hv)
  clear hu hv
  go_enter Tryz.func51,Tryz.ntmps51
  go_wp2_with fail
  refine (cut_hit 35 s i _ H.out HI.out HS.out).mono ?_
  rintro e w' ⟨rfl,n,rfl⟩
  rw [HU.out.1,HU.out.2]
  go_wp2_with fail
  refine (HF.out n).mono ?_
  rintro e w1 ⟨A,rfl,hA,ho,hb⟩
  go_wp2
  go_ret
  exact ⟨A,rfl,hA,ho,hb⟩
end Go.Proofs.YtdegffffcbhjbaaGreatDoor
end
section
namespace Go.Proofs.YtdegffffcbhjbaaGreatDoor
open Go.RowKit Go.Shelf
attribute [local go_sem] Oper.semAt_some
def LineX:Type:={ x:Nat × List UInt8 // x.1≤30001∧x.2.length≤20000∧okL x.2=true }
def LineX.n (x:LineX):Nat:=x.1.1
def LineX.l (x:LineX):List UInt8:=x.1.2
def LineX.pair (x:LineX):Nat × List UInt8:=(x.n,x.l)
def encX (x:LineX):Array Value:=#[.int .i64 (x.n:Int),.string (mkB x.l)]
theorem linesX:∀ (L:List (List UInt8)) (n:Nat),n+L.length≤30001→(∀ x∈L,okL x=true∧x.length≤20000)→∃ xs:List LineX,xs.map LineX.pair=enumL n L
 | [],_,_,_=>⟨[],rfl⟩
 | x::r,n,h,hx=>by
   simp at h
   obtain ⟨xs,hxs⟩:=linesX r (n+1) (by omega) fun y hy=>hx y (List.mem_cons_of_mem _ hy)
   have h1:=hx x (List.mem_cons_self ..)
   have y:{ y:LineX // y.pair=(n,x) }:=⟨⟨(n,x),by simp;omega,h1.2,h1.1⟩,rfl⟩
   exact ⟨y.1::xs,by rw [List.map_cons,hxs,y.2];rfl⟩
theorem grown_drewN (w:World) (n:Nat):w.grownBy (w.drewN n) none:=by
 have h:=below_drewN (Below.refl w.heap.size w) n
 exact ⟨h.os,h.tape,h.output,h.size,fun j hj _=>h.block j hj⟩
def restOf:Value→Value→Nat
 | .string r,.bool true=>r.size+1
 | _,_=>0
def IterAt (J:List LineX→World→Prop) (xs:List LineX) (s3 s4 s5:Value) (wr:World):Prop :=
 ∃ (pre post:List LineX) (r:ByteArray) (m:Bool) (n:Nat),s3=.string r∧s4=.bool m∧s5=.int .i64 (n:Int)∧xs=pre++post ∧
   (m=true→post.map LineX.pair=enumL n (linesGo [] r.data.toList))∧(m=false→post=[])∧r.size≤20000∧n+post.length≤30001∧J pre wr
set_option maxRecDepth 100000 in
set_option maxHeartbeats 2000000 in
theorem iter_in (n:Nat) (hn:1≤n) (l Bn n₀:Nat) (s:ByteArray) (hs:s.size≤20000) (xs:List LineX) (hxs:xs.map LineX.pair=enumL 1 (linesGo [] s.data.toList)) (J Jx:List LineX→World→Prop)
 (hJ:∀ q A k,J q A→J q (A.drewN k))
 (hY:∀ pre x W,J pre W→pre.length < xs.length→YieldAt Fence.wide (n - 1) Tryz.prog l (encX x) W fun e W' =>
  (e=.returned (.bool true)∧J (pre++[x]) W'∧Below n₀ W W')∨(e=.returned (.bool false)∧Jx (pre++[x]) W'))
 (W:World) (hBn:W.cell? ⟨Bn,0,none⟩=some (.string s)) (h0:J [] W) :
 CallsIn Fence.wide n Tryz.prog 80 #[.func (.yield l) #[] #[],.pointer (some ⟨Bn,0,none⟩)] W fun e W'=>(∃ v,e=.returned v) ∧
  ((∃ ys,ys=xs∧J ys W')∨(∃ pre,pre <+: xs∧Jx pre W')):=by
 have hlen:1+xs.length≤30001:=by
  have h1:=congrArg List.length hxs
  rw [List.length_map,enumL_length] at h1
  have h2:=linesGo_length [] s.data.toList
  rw [size_list] at h2
  omega
 have HX:=Lib.hid hxs
 have HL:=Lib.hid hlen
 have HJ:=Lib.hid hJ
 have HY:=Lib.hid hY
 clear hxs hlen hJ hY
 refine callsIn_of_wp Tryz.func80 rfl trivial ?_ rfl
 simp only [Tryz.ntmps80,List.size_toArray,List.length_cons,List.length_nil,Nat.reduceAdd,Nat.reduceSub,Array.replicate_succ,Array.replicate_zero,List.push_toArray,List.append_toArray,List.nil_append,List.cons_append]
 gi_wp2
 gi_loopw [3,4,5] (fun s3 s4 s5 wr=>IterAt J xs s3 s4 s5 wr) (fun s3 s4 _ _=>restOf s3 s4)
 case atStart =>
  exact ⟨[],xs,s,true,1,rfl,rfl,rfl,rfl,fun _=>HX.out,(fun h=>by cases h),hs,HL.out,h0⟩
 case round =>
  obtain ⟨pre,post,r,m,k,rfl,rfl,rfl,hx,hm,hf,hr,hk,hJs⟩:=hrel
  cases m with
  | false =>
    obtain rfl:=hf rfl
    have HXX:=Lib.hid hx
    clear hx hm hf hk
    gi_wp2
    go_end0
    exact ⟨⟨_,rfl⟩,.inl ⟨pre,by rw [HXX.out];simp,hJs⟩⟩
  | true =>
    have hkb:k≤30001:=by omega
    replace hm:=hm rfl
    clear hf
    rcases cut_cases 10 r.data.toList with ⟨h1,h2⟩ | ⟨i,h1,h2,h3,h4⟩
    ·rw [linesGo_last _ h2] at hm
     obtain ⟨x,rfl⟩:∃ x,post=[x]:=by
      have:=congrArg List.length hm
      simp [enumL] at this
      exact List.length_eq_one_iff.1 this
     have hxp:x.pair=(k,r.data.toList):=by simpa [enumL] using hm
     have hxn:x.n=k:=congrArg Prod.fst hxp
     have hxl:mkB x.l=r:=by rw [show x.l=r.data.toList from congrArg Prod.snd hxp,mkB_list]
     obtain ⟨fn,tmps,assign,body,hy,hR⟩:=HY.out pre x wr hJs (by rw [hx];simp)
     unfold encX at hy
     rw [hxn,hxl] at hy
     have HXX:=Lib.hid hx
     have H:=Lib.hid h1
     have HK:=Lib.hid hk
     clear hx h1 h2 hm hxp hxn hxl hk
     gi_wp2_with (refine ⟨trivial,?_⟩;gi_at_call 81;refine (callsIn_wide.2 (cut_miss 10 r _ H.out)).mono ?_;rintro e w' ⟨rfl,rfl⟩)
     refine hR.mono ?_
     rintro e W3 (⟨rfl,hJ3,hk3⟩ | ⟨rfl,hJx3⟩)
     ·gi_wp2
      go_roundw
      case rel=>exact ⟨pre++[x],[],⟨#[]⟩,false,k+1,rfl,rfl,by simp,by rw [HXX.out];simp,(fun h=>by cases h),fun _=>rfl,by decide,by have:=HK.out;simp at this ⊢;omega,hJ3⟩
      case measure=>simp [restOf]
     ·gi_wp2
      refine bodyPost_ret (results_none rfl _ _ _) rfl ?_
      exact ⟨⟨_,rfl⟩,.inr ⟨pre++[x],⟨[],by rw [HXX.out];simp⟩,hJx3⟩⟩
    ·have hi:i < r.size:=by rw [←size_list];exact h2
     have hcut:linesGo [] r.data.toList=r.data.toList.take i::linesGo [] (r.data.toList.drop (i+1)):=by
      conv=>lhs;rw [h4]
      exact linesGo_cut _ _ h3
     rw [hcut] at hm
     obtain ⟨x,post',rfl⟩:∃ x post',post=x::post':=by
      cases post with
      | nil=>simp [enumL] at hm
      | cons x p=>exact ⟨x,p,rfl⟩
     simp only [enumL,List.map_cons,List.cons.injEq] at hm
     obtain ⟨hxp,hpost⟩:=hm
     have hxn:x.n=k:=congrArg Prod.fst hxp
     have hxl:mkB x.l=r.extract 0 i:=by rw [show x.l=_ from congrArg Prod.snd hxp,piece_ahead]
     obtain ⟨u,hu⟩:∃ u,r.extract 0 i=u:=⟨_,rfl⟩
     obtain ⟨v,hv⟩:∃ v,r.extract (i+1) r.size=v:=⟨_,rfl⟩
     rw [hu] at hxl
     have hvl:v.data.toList=r.data.toList.drop (i+1):=by rw [←hv,piece_behind,mkB_data]
     have hvs:v.size < r.size:=by rw [←size_list,hvl,List.length_drop,size_list];omega
     rw [←hvl] at hpost
     have HUV:=Lib.hid (And.intro hu hv)
     have HC:=Lib.hid (fun w=>cut_hit 10 r i w h1 hi (by unfold maxLen;omega))
     have HYY:=Lib.hid (fun q=>HY.out pre x (wr.drewN q) (HJ.out _ _ q hJs) (by rw [hx];simp))
     have HXX:=Lib.hid hx
     have HK:=Lib.hid hk
     have HP:=Lib.hid hpost
     have HN:=Lib.hid (And.intro hxn hxl)
     clear hx h1 h2 h3 h4 hcut hxp hxn hxl hk hpost hvl hu hv hi
     gi_wp2_with (refine ⟨trivial,?_⟩;gi_at_call 81;refine (callsIn_wide.2 (HC.out _)).mono ?_;rintro e w' ⟨rfl,q,rfl⟩;rw [HUV.out.1,HUV.out.2];obtain ⟨fn,tmps,assign,body,hy,hR⟩:=HYY.out q;unfold encX at hy;rw [HN.out.1,HN.out.2] at hy)
     refine hR.mono ?_
     rintro e W3 (⟨rfl,hJ3,hk3⟩ | ⟨rfl,hJx3⟩)
     ·gi_wp2
      go_roundw
      case rel=>exact ⟨pre++[x],post',v,true,k+1,rfl,rfl,by simp,by rw [HXX.out];simp,fun _=>HP.out,(fun h=>by cases h),by omega,by have:=HK.out;simp at this ⊢;omega,hJ3⟩
      case measure=>simp [restOf];omega
     ·gi_wp2
      refine bodyPost_ret (results_none rfl _ _ _) rfl ?_
      exact ⟨⟨_,rfl⟩,.inr ⟨pre++[x],⟨post',by rw [HXX.out];simp⟩,hJx3⟩⟩
set_option maxHeartbeats 1000000 in
theorem numbered_in (n:Nat) (s:ByteArray) (w:World) :
 CallsIn Fence.wide n Tryz.prog 50 #[.string s] w fun e w'=>e=.returned (.func (.func 80) #[] #[.pointer (some ⟨w.heap.size,0,none⟩)])∧w'=w.alloc (.cells #[.string s] 9):=by
 refine callsIn_of_wp Tryz.func50 rfl trivial ?_ rfl
 simp only [Tryz.ntmps50,List.size_toArray,List.length_cons,List.length_nil,Nat.reduceAdd,Nat.reduceSub,Array.replicate_succ,Array.replicate_zero,List.push_toArray,List.append_toArray,List.nil_append,List.cons_append]
 gi_wp2
 go_ret
 exact ⟨rfl,rfl⟩
theorem iter_stops (n:Nat) (hn:1≤n) (Bn n₀:Nat) (s:ByteArray) (hs:s.size≤20000) (xs:List LineX) (hxs:xs.map LineX.pair=enumL 1 (linesGo [] s.data.toList)) (w:World) (hBn:Bn < w.heap.size) (hc:w.cell? ⟨Bn,0,none⟩=some (.string s)) :
 SeqStopsK Fence.wide n Tryz.prog 80 #[.pointer (some ⟨Bn,0,none⟩)] encX (Below n₀) (fun ys=>ys=xs) (fun pre=>pre <+: xs) xs.length w:=fun l J Jx W hW hJ _ hY h0 =>
 iter_in n hn l Bn n₀ s hs xs hxs J Jx (fun q A k h=>hJ q A _ none h (grown_drewN A k) (fun r e=>by cases e)) hY W ((hW.cell (p:=⟨Bn,0,none⟩) hBn).trans hc) h0
end Go.Proofs.YtdegffffcbhjbaaGreatDoor
end
section
namespace Go.Proofs.YtdegffffcbhjbaaGreatDoor
open Go.RowKit Go.Shelf
attribute [local go_sem] Oper.semAt_some
def LinesPost (w:World) (L:List (Int × List ByteArray)) (c:Int) (e:Ending) (w':World):Prop :=
 ∃ v,e=.returned (.tuple #[v,.int .i64 c])∧LinesV w' v L∧Below w.heap.size w w'
theorem info_line:(Tryz.prog.info? 90).map (fun i=>(i.zero,i.size,i.bytes))=some (some (.agg #[.int .i64 0,.slice none 0 0]),2,32):=by kernel_rfl
theorem linE_big (l:List UInt8) (h:20000 < l.length):linE l=4∧linV l=[]:=by simp [linE,linV,h]
theorem linE_bad (l:List UInt8) (h:l.length≤20000) (ho:okL l=false):linE l=5∧linV l=[]:=by simp [linE,linV,Nat.not_lt.2 h,ho]
theorem linE_ok (l:List UInt8) (h:l.length≤20000) (ho:okL l=true):linE l=0∧linV l=linesL l:=by simp [linE,linV,Nat.not_lt.2 h,ho]
def linesOf (pre:List LineX):List (Int × List ByteArray):=asB (numP (pre.map LineX.pair))
theorem linesOf_hit (pre:List LineX) (x:LineX) (h:wordsL x.l≠[]):linesOf (pre++[x])=linesOf pre++[((x.n:Int),(wordsL x.l).map mkB)]:=by
 unfold linesOf
 rw [List.map_append,List.map_cons,List.map_nil,numP_hit _ _ (by exact h),asB_append]
 rfl
theorem linesOf_miss (pre:List LineX) (x:LineX) (h:wordsL x.l=[]):linesOf (pre++[x])=linesOf pre:=by
 unfold linesOf
 rw [List.map_append,List.map_cons,List.map_nil,numP_miss _ _ (by exact h)]
theorem linesOf_length (pre:List LineX):(linesOf pre).length≤pre.length:=by
 unfold linesOf
 rw [asB_length]
 have:=numP_length (pre.map LineX.pair)
 simpa using this
def LinesI (w:World) (pre:List LineX) (W:World):Prop :=
 ∃ v LV,Boxed W w.heap.size 84 v∧W.ownsRow w.heap.size 90 2 v LV.length (flatL LV)∧WordsOwn W w.heap.size 9 LV (linesOf pre)
theorem linesI_own (w:World):Own (LinesI w):=by
 rintro s X Y row ⟨v,LV,hv,hr,hw⟩ hg hrow
 refine ⟨v,LV,hv.kept hg (fun e'=>?_),row_uncells hr hg hrow,hw.mono fun u n xs hu=>row_uncells hu hg hrow⟩
 obtain ⟨o,ho,hc⟩:=hrow _ e'.symm
 rw [show X.heap[w.heap.size]?=_ from hv] at ho;cases ho;cases hc
theorem lines_big (s:ByteArray) (w:World) (h:20000 < s.size) (hs:s.size≤30000) :
 Calls Tryz.prog 29 #[.string s] w (LinesPost w [] 4):=by
 go_enter Tryz.func29,Tryz.ntmps29
 go_wp2
 go_ret2
 exact ⟨_,rfl,LinesV.nil _,Below.refl _ _⟩
theorem lines_bad (s:ByteArray) (w:World) (hs:s.size≤20000) (ho:okL s.data.toList=false) :
 Calls Tryz.prog 29 #[.string s] w (LinesPost w [] 5):=by
 have HO:=Lib.hid ho
 have HS:Hid (s.size≤maxLen):=Lib.hid (by unfold maxLen;omega)
 clear ho
 have h1:¬ 20000 < s.size:=by omega
 go_enter Tryz.func29,Tryz.ntmps29
 go_wp2_with fail
 refine (readable_any s _ HS.out).mono ?_
 rintro e w' ⟨rfl,rfl⟩
 rw [HO.out]
 go_wp2
 go_ret2
 exact ⟨_,rfl,LinesV.nil _,Below.refl _ _⟩
set_option maxRecDepth 100000 in
set_option maxHeartbeats 2000000 in
theorem lines_good (s:ByteArray) (w:World) (hs:s.size≤20000) (ho:okL s.data.toList=true) :
 Calls Tryz.prog 29 #[.string s] w (LinesPost w (asB (linesL s.data.toList)) 0):=by
 have hall:=linesGo_all okB [] s.data.toList rfl ho
 have hlen:=linesGo_length [] s.data.toList
 have hsl:=size_list s
 obtain ⟨xs,hxs⟩:=linesX (linesGo [] s.data.toList) 1 (by omega) fun x hx=>⟨(hall x hx).1,by have:=(hall x hx).2;simp at this;omega⟩
 have hres:linesOf xs=asB (linesL s.data.toList):=by unfold linesOf linesL;rw [hxs]
 have hxl:xs.length≤20001:=by
  have h1:=congrArg List.length hxs
  rw [List.length_map,enumL_length] at h1
  omega
 rw [←hres]
 have HX:=Lib.hid hxs
 have HO:=Lib.hid ho
 have HS:Hid (s.size≤maxLen):=Lib.hid (by unfold maxLen;omega)
 have HXL:=Lib.hid hxl
 clear hall hlen hsl hxs hres ho hxl
 have h1:¬ 20000 < s.size:=by omega
 obtain ⟨i0,hi,hz0,hz1,hz2⟩:=info_parts info_line
 have HI:=Lib.hid (And.intro hi (And.intro hz0 (And.intro hz1 hz2)))
 clear hi hz0 hz1 hz2
 refine (callsIn_wide (n:=3)).1 ?_
 refine callsIn_of_wp_marks Tryz.func29 rfl trivial ?_ rfl
 simp only [Tryz.ntmps29,List.size_toArray,List.length_cons,List.length_nil,Nat.reduceAdd,Nat.reduceSub,Array.replicate_succ,Array.replicate_zero,List.push_toArray,List.append_toArray,List.nil_append,List.cons_append]
 gi_wp2_with (first
  | (refine ⟨trivial,?_⟩;gi_at_call 49;refine (callsIn_wide.2 (readable_any s _ HS.out)).mono ?_;rintro e w' ⟨rfl,rfl⟩;rw [HO.out])
  | (refine ⟨trivial,?_⟩;gi_at_call 50;refine (numbered_in _ s _).mono ?_;rintro e w' ⟨rfl,rfl⟩))
 have bO:=Boxed.new w 84 (.slice none 0 0)
 have bN:=Boxed.new (w.alloc (.cells #[.slice none 0 0] 84)) 9 (.string s)
 rw [World.size_alloc] at bN
 have hB0:Below w.heap.size w ((w.alloc (.cells #[.slice none 0 0] 84)).alloc (.cells #[.string s] 9)):=((Below.refl _ w).alloc (Nat.le_refl _) _).alloc (by simp) _
 refine wpIn_rangeFunc_ownG rfl (by decide) (gf:=80) (lb:=#[.pointer (some ⟨w.heap.size+1,0,none⟩)]) rfl trivial (enters_of Tryz.func80 (by kernel_rfl) rfl)
  (iter_stops 2 (by decide) (w.heap.size+1) w.heap.size s hs xs HX.out _ (by simp) bN.cell) belowK_t (belowK_b (by simp;omega)) (Below.refl _ _) (fun _=>rfl)
  (fun pre W=>LinesI w pre W∧Below w.heap.size w W)
  (fun _ _ _=>False)
  (OwnFrom.and (Own.from (linesI_own w) _) (ownFrom_below (Nat.le_refl _) (by simp;omega)))
  (fun _ _ _ _ _ hs _ _=>hs)
  ⟨⟨_,[],bO.alloc _,World.ownsRow_nil _ _ _ _,WordsOwn.nil _ _ _⟩,hB0⟩
  (fun x=>{ tmps:=#[.string s,undef,.slice none 0 0,.int .i64 0,.pointer (some ⟨w.heap.size,0,none⟩),.int .i64 (x.n:Int),.string (mkB x.l),undef,.string s,.int .i64 (s.size:Int),.bool (decide ((20000:Int) < (s.size:Int))),.string s,.bool true,.bool false,.string s,.func (.func 80) #[] #[.pointer (some ⟨w.heap.size+1,0,none⟩)],.int .i64 (x.n:Int),.string (mkB x.l),undef,undef,undef,undef,undef,undef,undef,undef,undef,undef,undef,undef],defers:=[] }) ?assign ?body ?done ?stop
 case assign =>
  intro l x W K hK
  simp only [encX]
  gi_wp2
  exact hK
 case body =>
  rintro l pre x W ⟨⟨v,LV,hv,hrow,hw⟩,hB⟩ hlt
  have hWd:∀ W,Calls Tryz.prog 51 #[.string (mkB x.l)] W (WordsPost W ((wordsL x.l).map mkB)):=fun W=>by
   have:=wordsOf_any (mkB x.l) W (by rw [mkB_size];have:=x.2.2.1;show x.1.2.length≤_;omega) (fun c hc=>by
    rw [mkB_data] at hc
    have:=List.all_eq_true.1 x.2.2.2 c hc
    rw [okB_dec] at this
    have:=of_decide_eq_true this
    omega)
   rwa [mkB_data] at this
  have hpl:LV.length≤pre.length:=by rw [hw.1];exact linesOf_length pre
  have hll:LV.length≤20001:=by have:=HXL.out;omega
  have HH:=linesOf_hit pre x
  have HM:=linesOf_miss pre x
  by_cases hws:wordsL x.l=[]
  ·have HE:=Lib.hid (HM hws)
   rw [hws] at hWd
   have HW:=Lib.hid hWd
   clear hWd HH HM hws hpl hll
   gi_wp2_with (refine ⟨trivial,?_⟩;gi_at_call 51;refine (CallsIn.inRound l (callsIn_wide.2 (HW.out _))).mono ?_;rintro e W1 ⟨A,rfl,hA,ho,hb⟩;simp only [List.map_nil,List.length_nil])
   exact ⟨keepsFrom_below _ hb,hb.mono hB.size,⟨v,LV,boxed_below hv hb,row_below hrow hb,by rw [HE.out];exact hw.mono fun u n xs hu=>row_below hu hb⟩,hB.trans (hb.mono hB.size)⟩
  ·have HE:=Lib.hid (HH hws)
   have hpos:0 < ((wordsL x.l).map mkB).length:=by rw [List.length_map];exact List.length_pos_iff.2 hws
   obtain ⟨ws,hwsd⟩:∃ ws,(wordsL x.l).map mkB=ws:=⟨_,rfl⟩
   rw [hwsd] at hWd hpos HE
   have HW:=Lib.hid hWd
   clear hWd HH HM hws hpl hwsd
   gi_wp2_with (first
    | (refine ⟨trivial,?_⟩;gi_at_call 51;refine (CallsIn.inRound l (callsIn_wide.2 (HW.out _))).mono ?_;rintro e W1 ⟨A,rfl,hA,ho,hb⟩;have hv1:=boxed_below hv hb;have hc1:=hv1.cell;have hrow1:=row_below hrow hb;have hw1:Hid _:=Lib.hid (hw.mono fun u n xs hu=>row_below hu hb);have hsz:w.heap.size≤W1.heap.size:=Nat.le_trans hB.size hb.size)
    | (gi_at_builtin;refine wpListIn_append_own _ rfl _ _ 84 rfl w.heap.size 90 i0 (.agg #[.int .i64 0,.slice none 0 0]) 2 32 Tryz.underlying84 HI.out.1 HI.out.2.1 HI.out.2.2.1 HI.out.2.2.2 rfl (by decide) _ _ _ rfl (hrow1.alloc _) ⟨W1.heap.size,0,none⟩ 1 1 [.int .i64 (x.n:Int),.slice (some ⟨A,0,none⟩) ws.length ws.length] rfl rfl (cell_two_new' _ _ _ _) (by intro u hu;simp at hu;rcases hu with rfl | rfl <;> rfl) (by unfold maxLen;omega) (by omega) (by simp;omega) ?_;intro v' w1 hown' hgrow _;obtain ⟨g',cap',rfl⟩:=ownsRow_succ hown';obtain ⟨hv2,hv3,hr3,hk3,hb3⟩:=hv1.appended (by decide) hrow1 hsz (Nat.le_refl _) hown' hgrow;have hc2:=hv2.cell;have hf2:=hv2.frozen))
   have hK9:∀ (u:Value) (n:Nat) (xs:List Value),W1.ownsRow w.heap.size 9 1 u n xs→(w1.setCell ⟨w.heap.size,0,none⟩ (.slice (some ⟨g',0,none⟩) (LV.length+1) cap')).ownsRow w.heap.size 9 1 u n xs:=fun u n xs hu=>by
    have hu1:=(hu.alloc (.cells #[.int .i64 (x.n:Int),.slice (some ⟨A,0,none⟩) ws.length ws.length] 90)).kept hgrow (row_apart hrow1 hu (by decide))
    exact hu1.kept (grownBy_setCell' w1 w.heap.size _) (.inr (hv2.not_row (by decide) hu1).symm)
   refine ⟨(keepsFrom_below _ hb).trans (hk3.from _),(hb.mono hB.size).trans hb3,⟨_,LV++[((x.n:Int),.slice (some ⟨A,0,none⟩) ws.length ws.length)],hv3,?_,?_⟩,hB.trans ((hb.mono hB.size).trans hb3)⟩
   ·rw [flatL_snoc,List.length_append]
    exact hr3
   ·rw [HE.out]
    exact (hw1.out.mono hK9).snoc _ _ _ (hK9 _ _ _ (row_base ho hB.size))
 case done =>
  rintro D ys W hD rfl ⟨⟨v,LV,hv,hrow,hw⟩,hB⟩ hK
  have hc:=hv.cell
  have hL:=Lib.hid (fun W' (h1:W'.ownsRow w.heap.size 90 2 v LV.length (flatL LV)) (h2:WordsOwn W' w.heap.size 9 LV (linesOf ys))=>lines_of_in h1 h2.isIn)
  gi_wp2
  refine ⟨by simp,.inl ⟨_,_,rfl,run_takeDeferred hK,?_⟩⟩
  refine ⟨.tuple #[v,.int .i64 0],by simp [results,Tryz.results29,go_sem],v,rfl,hL.out _ (ownsRow_putObj hrow _ hK rfl) (hw.mono fun u n xs hu=>ownsRow_putObj hu _ hK rfl),hB.trans (belowK_b (w:=w) (Nat.le_refl _) W D _ _ (by simp at hD;omega) hK rfl rfl)⟩
 case stop =>
  rintro D c pre W _ _ h _
  exact h.elim
theorem lines_any (s:ByteArray) (w:World) (hs:s.size≤30000) :
 Calls Tryz.prog 29 #[.string s] w (LinesPost w (asB (linV s.data.toList)) (linE s.data.toList)):=by
 have hl:=size_list s
 by_cases h:20000 < s.size
 ·obtain ⟨e1,e2⟩:=linE_big s.data.toList (by omega)
  rw [e1,e2]
  exact lines_big s w h hs
 ·cases ho:okL s.data.toList with
  | false =>
    obtain ⟨e1,e2⟩:=linE_bad s.data.toList (by omega) ho
    rw [e1,e2]
    exact lines_bad s w (by omega) ho
  | true =>
    obtain ⟨e1,e2⟩:=linE_ok s.data.toList (by omega) ho
    rw [e1,e2]
    exact lines_good s w (by omega) ho
end Go.Proofs.YtdegffffcbhjbaaGreatDoor
end
section
namespace Go.Proofs.YtdegffffcbhjbaaGreatDoor.Un
open Go.RowKit Go.Maps
structure ParseAt (W0 W:World) (R m i:Nat) (l:List (List ByteArray)) (c f e k:Value) (D:DataW Unit) (M:Mast):Prop where
 rd:RdAt W W0.heap.size R m c f e k i D M
 st:StoodOk D M
 sane:Sane M
 bel:Below W0.heap.size W0 W
 run:runM zeroM l=runM M (l.drop i)
theorem parseAt_start (W0:World) (l:List (List ByteArray)) :
 ParseAt W0 ((W0.alloc (.map #[] 0)).alloc (.cells (rdCells (.slice none 0 0) (.slice none 0 0) (.slice none 0 0) (.slice none 0 0) zeroM W0.heap.size) 116)) (W0.heap.size+1) W0.heap.size 0 l (.slice none 0 0) (.slice none 0 0) (.slice none 0 0) (.slice none 0 0) (.map []) zeroM where
 rd:=⟨by have:=heap_alloc_new (W0.alloc (.map #[] 0)) (.cells (rdCells (.slice none 0 0) (.slice none 0 0) (.slice none 0 0) (.slice none 0 0) zeroM W0.heap.size) 116);rw [World.size_alloc] at this;exact this,World.ownsRow_nil _ _ _ _,World.ownsRow_nil _ _ _ _,World.ownsRow_nil _ _ _ _,World.ownsRow_nil _ _ _ _,(World.ownsMap_made W0 _ _ _).alloc _,Nat.le_succ _,Nat.le_refl _⟩
 st:=StoodOk.zero
 sane:=Sane.zero
 bel:=((Below.refl _ W0).alloc (Nat.le_refl _) _).alloc (by simp) _
 run:=rfl
theorem words_pos (s:ByteArray):∀ ws∈wordsT s,0 < ws.length:=fun ws h=>List.length_pos_iff.2 (text_right s ws h).1
def ReadAll:Prop:=∀ (v:Value) (ws:List ByteArray) (W0 W:World) (R m n:Nat) (c f e l:Value) (D:DataW Unit) (M:Mast),StrsV W0 v ws→0 < ws.length→Laid W0→Fl.Laid W0→Below W0.heap.size W0 W→RdAt W W0.heap.size R m c f e l n D M→StoodOk D M→Sane M→n < maxLen →
    Calls Tryz.prog 44 #[.pointer (some ⟨R,0,none⟩),v] W (LineTold W W0.heap.size R m (n+1) (stepV M ws) (stepE M ws))
abbrev nil4:Value:=.slice none 0 0
abbrev zeroBox (w:World):World:=w.alloc (.cells #[.slice none 0 0,.slice none 0 0,.slice none 0 0,.slice none 0 0,.string emp,.string emp,.string emp,.string emp,.string emp] 30)
theorem box_start (w:World):BoxM (zeroBox w) w.heap.size 30 nil4 nil4 nil4 nil4 zeroM:=heap_alloc_new w _
theorem ones_nil:Ones nil4 nil4 nil4 nil4:=⟨rfl,rfl,rfl,rfl⟩
set_option maxRecDepth 100000 in
set_option maxHeartbeats 16000000 in
theorem parse_with (hread:ReadAll) (s:ByteArray) (w:World) (hs:s.size≤30000) (hl:Laid w) (hlf:Fl.Laid w) :
 Calls Tryz.prog 25 #[.string s] w (MastTold w (parseM s).1 (parseM s).2):=by
 have HB0:Hid (Below w.heap.size w (zeroBox w)):=Lib.hid ((Below.refl w.heap.size w).alloc (Nat.le_refl _) _)
 have HX0:=Lib.hid (box_start w)
 have HLN:=Lib.hid (lines_any s (zeroBox w) hs)
 have HLA:=Lib.hid (hl.below HB0.out (Nat.le_refl _))
 have HLF:=Lib.hid (hlf.below HB0.out (Nat.le_refl _))
 have HRE:=Lib.hid hread
 have HWP:=Lib.hid (words_pos s)
 have hpm:parseM s=if linE s.data.toList=0 then linesM (wordsT s) else (zeroM,linE s.data.toList):=rfl
 obtain ⟨L,hL⟩:∃ L,asB (linV s.data.toList)=L:=⟨_,rfl⟩
 have hWT:wordsT s=L.map (·.2):=by unfold wordsT;rw [hL]
 rw [hWT] at hpm HWP
 have hLL:L.length≤30001:=by
  rw [←hL,asB_length]
  unfold linV
  split
  ·simp
  ·split
   ·unfold linesL
    have h1:=numP_length (enumL 1 (linesGo [] s.data.toList))
    rw [enumL_length] at h1
    have h2:=linesGo_length [] s.data.toList
    rw [size_list] at h2
    omega
   ·simp
 obtain ⟨e0,he0⟩:∃ e0,linE s.data.toList=e0:=⟨_,rfl⟩
 rw [he0] at hpm HLN
 rw [hL] at HLN
 obtain ⟨PM,hPM⟩:∃ PM,(parseM s).1=PM:=⟨_,rfl⟩
 obtain ⟨PE,hPE⟩:∃ PE,(parseM s).2=PE:=⟨_,rfl⟩
 rw [hPM,hPE]
 have HPR:Hid ((PM,PE)=if e0=0 then linesM (L.map (·.2)) else (zeroM,e0)):=Lib.hid (by rw [←hpm,←hPM,←hPE])
 clear hread hl hlf hpm hL hWT he0 hPM hPE
 go_enter Tryz.func25,Tryz.ntmps25
 go_wp2_with fail
 refine HLN.out.mono ?_
 rintro en w2 ⟨v2,rfl,hlv,hb2⟩
 have HX2:=Lib.hid (HX0.out.kept hb2)
 have HB2:=Lib.hid (HB0.out.trans (hb2.mono HB0.out.size))
 have HLA2:=Lib.hid (HLA.out.below hb2 (Nat.le_refl _))
 have HLF2:=Lib.hid (HLF.out.below hb2 (Nat.le_refl _))
 clear hb2 HX0 HB0 HLA HLF
 by_cases h0:e0=0
 ·subst h0
  have HPR2:Hid ((PM,PE)=linesM (L.map (·.2))):=Lib.hid (by rw [HPR.out,if_pos rfl])
  clear HPR
  obtain ⟨p,cp,rfl,hm,hc⟩:=hlv
  have HC:=Lib.hid hc
  obtain ⟨n,hn⟩:∃ n,L.length=n:=⟨_,rfl⟩
  rw [hn] at hLL ⊢
  have HN:=Lib.hid hn
  have HST:=Lib.hid (parseAt_start w2 (L.map (·.2)))
  have hmm:=@run_makeMap Tryz.prog
  clear hc hn hm
  go_wp2
  clear hmm
  go_loopw [24] (fun s24 wr=>∃ i:Nat,i≤n∧s24=.int .i64 (i:Int)∧Hid (∃ c f e k D M,ParseAt w2 wr (w2.heap.size+1) w2.heap.size i (L.map (·.2)) c f e k D M)) (fun s24 _=>n - (intOf s24).toNat)
  case atStart=>exact ⟨0,Nat.zero_le _,rfl,Lib.hid ⟨_,_,_,_,_,_,HST.out⟩⟩
  case round =>
   obtain ⟨i,hi,rfl,HPA⟩:=hrel
   obtain ⟨c,f,e,k,D,M,hpa⟩:=HPA.out
   have HP:=Lib.hid hpa
   clear hpa HPA
   by_cases hlt:i < n
   ·obtain ⟨⟨ln,ws⟩,hx⟩:∃ x,L[i]?=some x:=⟨_,List.getElem?_eq_getElem (by rw [HN.out];exact hlt)⟩
    obtain ⟨b,o,u,rfl,d0,d1,hu⟩:=HC.out i _ hx
    dsimp only at d0 d1 hu
    have hwx:(L.map (·.2))[i]?=some ws:=by rw [List.getElem?_map,hx];rfl
    have HWX:=Lib.hid hwx
    have HW0:=Lib.hid (HWP.out ws (List.mem_of_getElem? hwx))
    have HU:=Lib.hid hu
    obtain ⟨pu,cu,rfl,_⟩:=hu
    have e0:=(HP.out.bel.cell (World.block_lt_of_cell? w2 _ d0)).trans d0
    have e1:=(HP.out.bel.cell (World.block_lt_of_cell? w2 _ d1)).trans d1
    obtain ⟨nw,hnw⟩:∃ nw,ws.length=nw:=⟨_,rfl⟩
    rw [hnw] at e1 HU
    have hbx:=(Below.refl wr.heap.size wr).alloc (Nat.le_refl _) (.cells #[.int .i64 ln,.slice pu nw cu] 90)
    have HR1:=Lib.hid (HP.out.rd.below hbx)
    have HB1:=Lib.hid (HP.out.bel.trans (hbx.mono HP.out.bel.size))
    have HRC:=Lib.hid (HRE.out (.slice pu nw cu) ws w2 _ _ _ _ _ _ _ _ _ _ HU.out HW0.out HLA2.out HLF2.out HB1.out HR1.out HP.out.st HP.out.sane (by unfold maxLen;omega))
    clear hx hwx d0 d1 hnw hbx
    obtain ⟨E,hE⟩:∃ E,stepE M ws=E:=⟨_,rfl⟩
    rw [hE] at HRC
    have HE:=Lib.hid hE
    clear hE
    go_wp2_with fail
    refine HRC.out.mono ?_
    rintro en w3 ⟨rfl,hb3,hrd3⟩
    have HB3:=Lib.hid (HB1.out.trans hb3)
    have HRD3:=Lib.hid hrd3
    clear hb3 hrd3 e0 e1
    by_cases hE0:E=0
    ·subst hE0
     have HNX:Hid (∃ c f e k D M,ParseAt w2 w3 (w2.heap.size+1) w2.heap.size (i+1) (L.map (·.2)) c f e k D M):=Lib.hid (by
      obtain ⟨c',f',e',k',D',hr,hst⟩:=HRD3.out rfl
      refine ⟨c',f',e',k',D',_,hr,hst,HP.out.sane.step HE.out,HB3.out,?_⟩
      have hdr:(L.map (·.2)).drop i=ws::(L.map (·.2)).drop (i+1):=by
       have hlt':=(List.getElem?_eq_some_iff.1 HWX.out).1
       rw [List.drop_eq_getElem_cons hlt',(List.getElem?_eq_some_iff.1 HWX.out).2]
      rw [HP.out.run,hdr,runM_cons _ _ _ HE.out])
     go_wp2
     go_roundw
     case rel=>exact ⟨i+1,by omega,by go_num,HNX⟩
     case measure=>simp [intOf];omega
    ·have HPF:Hid (PM=zeroM∧PE=E):=Lib.hid (by
      have hdr:(L.map (·.2)).drop i=ws::(L.map (·.2)).drop (i+1):=by
       have hlt':=(List.getElem?_eq_some_iff.1 HWX.out).1
       rw [List.drop_eq_getElem_cons hlt',(List.getElem?_eq_some_iff.1 HWX.out).2]
      have h1:=HPR2.out
      unfold linesM at h1
      rw [HP.out.run,hdr,runM_stop _ _ _ (by rw [HE.out];exact hE0),endM_stop _ (by rw [HE.out];exact hE0),HE.out] at h1
      exact Prod.mk.inj h1)
     have HX3:=Lib.hid (HX2.out.keep HB3.out HX2.out.lt)
     have HBF:=Lib.hid (HB2.out.trans (HB3.out.mono HB2.out.size))
     go_wp2_with (refine wpList_store_mast rfl 30 (.tmp 2) (.tmp 33) rfl w.heap.size nil4 nil4 nil4 nil4 nil4 nil4 nil4 nil4 zeroM zeroM 30 rfl rfl HX3.out ones_nil (by kernel_rfl) ?_;intro w4 hb4 hg4)
     have HBG:=Lib.hid (HBF.out.grown hg4 HBF.out.size (fun j hj=>by cases hj;exact Nat.le_refl _))
     obtain ⟨c0,c1,c2,c3,c4,c5,c6,c7,c8⟩:=hb4.nine
     have HZ:=Lib.hid (MastIn.zero w4)
     clear hb4 hg4
     refine bodyPost_ret (v:=.tuple #[aggM nil4 nil4 nil4 nil4 zeroM,.int .i64 E]) (by simp [results,Tryz.results25,go_sem,c0,c1,c2,c3,c4,c5,c6,c7,c8]) rfl ⟨_,by rw [HPF.out.2],?_,HBG.out⟩
     rw [HPF.out.1]
     exact ⟨_,_,_,_,rfl,HZ.out⟩
   ·have HRN:Hid (runM zeroM (L.map (·.2))=(M,0)):=Lib.hid (by
     rw [HP.out.run,List.drop_eq_nil_of_le (by rw [List.length_map,HN.out];omega)];rfl)
    have HPF:Hid ((PM,PE)=endM (M,0)):=Lib.hid (by rw [HPR2.out];unfold linesM;rw [HRN.out])
    have HMI:=Lib.hid HP.out.rd.mast
    have HCK:=Lib.hid (check_any c f e k M wr HMI.out (Fl.rise_codes HP.out.sane.fl) (by have:=HP.out.sane.lf;omega))
    obtain ⟨c0,c1,c2,c3,c4,c5,c6,c7,c8⟩:=HP.out.rd.nine
    obtain ⟨A,hA⟩:∃ A,allE M=A:=⟨_,rfl⟩
    rw [hA] at HCK
    have HA:=Lib.hid hA
    clear hA
    go_wp2_with fail
    clear c0 c1 c2 c3 c4 c5 c6 c7 c8
    refine HCK.out.mono ?_
    rintro en w3 ⟨rfl,hb3⟩
    have HR3:=Lib.hid (HP.out.rd.below hb3)
    have HB3:=Lib.hid (HP.out.bel.trans (hb3.mono HP.out.bel.size))
    have HX3:=Lib.hid (HX2.out.keep HB3.out HX2.out.lt)
    have HBF:=Lib.hid (HB2.out.trans (HB3.out.mono HB2.out.size))
    clear hb3
    by_cases hA0:A=0
    ·subst hA0
     have HPG:Hid (PM=M∧PE=0):=Lib.hid (by
      have h1:=HPF.out
      rw [endM_ok _ HA.out] at h1
      exact Prod.mk.inj h1)
     have HM3:=Lib.hid HR3.out.mast
     obtain ⟨c0,c1,c2,c3,c4,c5,c6,c7,c8⟩:=HR3.out.nine
     go_wp2_with (refine wpList_store_mast rfl 30 (.tmp 2) (.tmp 44) rfl w.heap.size nil4 nil4 nil4 nil4 c f e k zeroM M 30 rfl rfl HX3.out (ones_of HM3.out) (by kernel_rfl) ?_;intro w4 hb4 hg4)
     clear c0 c1 c2 c3 c4 c5 c6 c7 c8
     have HBG:=Lib.hid (HBF.out.grown hg4 HBF.out.size (fun j hj=>by cases hj;exact Nat.le_refl _))
     have HM4:Hid (MastIn w4 c f e k M):=Lib.hid (by
      have hne:∀ {B':Nat} {t':TypeId} {s' q':Nat} {v':Value} {xs':List Value},w3.ownsRow w2.heap.size t' s' v' q' xs'→v'.ownBlock=none∨v'.ownBlock≠some w.heap.size:=fun hr=>by
       rcases hr.2 with ⟨rfl,_⟩ | ⟨g',_,_,rfl,hge,_⟩
       ·exact .inl rfl
       ·refine .inr (fun e'=>?_)
        have:g'=w.heap.size:=by simpa [Value.ownBlock] using e'
        have:=HX2.out.lt
        omega
      exact ⟨chart_of_own (HR3.out.chart.kept hg4 (hne (B':=0) HR3.out.chart)),els_of_own (HR3.out.flows.kept hg4 (hne (B':=0) HR3.out.flows)),els_of_own (HR3.out.ents.kept hg4 (hne (B':=0) HR3.out.ents)),els_of_own (HR3.out.lines.kept hg4 (hne (B':=0) HR3.out.lines))⟩)
     obtain ⟨c0,c1,c2,c3,c4,c5,c6,c7,c8⟩:=hb4.nine
     clear hb4 hg4
     refine bodyPost_ret (v:=.tuple #[aggM c f e k M,.int .i64 0]) (by simp [results,Tryz.results25,go_sem,c0,c1,c2,c3,c4,c5,c6,c7,c8]) rfl ⟨_,by rw [HPG.out.2],?_,HBG.out⟩
     rw [HPG.out.1]
     exact ⟨_,_,_,_,rfl,HM4.out⟩
    ·have HPG:Hid (PM=zeroM∧PE=A):=Lib.hid (by
      have h1:=HPF.out
      rw [endM_no _ (by rw [HA.out];exact hA0),HA.out] at h1
      exact Prod.mk.inj h1)
     go_wp2_with (refine wpList_store_mast rfl 30 (.tmp 2) (.tmp 41) rfl w.heap.size nil4 nil4 nil4 nil4 nil4 nil4 nil4 nil4 zeroM zeroM 30 rfl rfl HX3.out ones_nil (by kernel_rfl) ?_;intro w4 hb4 hg4)
     have HBG:=Lib.hid (HBF.out.grown hg4 HBF.out.size (fun j hj=>by cases hj;exact Nat.le_refl _))
     obtain ⟨c0,c1,c2,c3,c4,c5,c6,c7,c8⟩:=hb4.nine
     have HZ:=Lib.hid (MastIn.zero w4)
     clear hb4 hg4
     refine bodyPost_ret (v:=.tuple #[aggM nil4 nil4 nil4 nil4 zeroM,.int .i64 A]) (by simp [results,Tryz.results25,go_sem,c0,c1,c2,c3,c4,c5,c6,c7,c8]) rfl ⟨_,by rw [HPG.out.2],?_,HBG.out⟩
     rw [HPG.out.1]
     exact ⟨_,_,_,_,rfl,HZ.out⟩
 ·have HPF:Hid (PM=zeroM∧PE=e0):=Lib.hid (by
   have h1:=HPR.out
   rw [if_neg h0] at h1
   exact Prod.mk.inj h1)
  obtain ⟨p,cp,rfl,_⟩:=hlv
  go_wp2_with (refine wpList_store_mast rfl 30 (.tmp 2) (.tmp 18) rfl w.heap.size nil4 nil4 nil4 nil4 nil4 nil4 nil4 nil4 zeroM zeroM 30 rfl rfl HX2.out ones_nil (by kernel_rfl) ?_;intro w4 hb4 hg4)
  have HBG:=Lib.hid (HB2.out.grown hg4 HB2.out.size (fun j hj=>by cases hj;exact Nat.le_refl _))
  obtain ⟨c0,c1,c2,c3,c4,c5,c6,c7,c8⟩:=hb4.nine
  have HZ:=Lib.hid (MastIn.zero w4)
  clear hb4 hg4
  refine bodyPost_ret (v:=.tuple #[aggM nil4 nil4 nil4 nil4 zeroM,.int .i64 e0]) (by simp [results,Tryz.results25,go_sem,c0,c1,c2,c3,c4,c5,c6,c7,c8]) rfl ⟨_,by rw [HPF.out.2],?_,HBG.out⟩
  rw [HPF.out.1]
  exact ⟨_,_,_,_,rfl,HZ.out⟩
end Go.Proofs.YtdegffffcbhjbaaGreatDoor.Un
end
section
namespace Go.Proofs.YtdegffffcbhjbaaGreatDoor.Un
open Go.RowKit Go.Maps
theorem RdAt.entsTurned {W W':World} {B R m n:Nat} {c f e l:Value} {D:DataW Unit} {M:Mast} (h:RdAt W B R m c f e l n D M) (hg:W.grownBy W' e.ownBlock) :
 BoxRd W' R m c f e l M∧W'.ownsRow B 99 6 c M.chart.length (flatA M.chart)∧W'.ownsRow B 143 2 f M.flows.length (flat Fl.encF M.flows)∧W'.ownsRow B 207 3 l M.lines.length (flat encL M.lines)∧MapRd W' m n D :=
 ⟨(hg.block R h.lt (fun e0=>box_apart h.box h.ents (by decide) e0.symm)).trans h.box,h.chart.kept hg (row_apart h.ents h.chart (by decide)),h.flows.kept hg (row_apart h.ents h.flows (by decide)),h.lines.kept hg (row_apart h.ents h.lines (by decide)),h.map.kept hg (map_apart h.map h.ents)⟩
theorem RdAt.linesTurned {W W':World} {B R m n:Nat} {c f e l:Value} {D:DataW Unit} {M:Mast} (h:RdAt W B R m c f e l n D M) (hg:W.grownBy W' l.ownBlock) :
 BoxRd W' R m c f e l M∧W'.ownsRow B 99 6 c M.chart.length (flatA M.chart)∧W'.ownsRow B 143 2 f M.flows.length (flat Fl.encF M.flows)∧W'.ownsRow B 188 2 e M.ents.length (flat encE M.ents)∧MapRd W' m n D :=
 ⟨(hg.block R h.lt (fun e0=>box_apart h.box h.lines (by decide) e0.symm)).trans h.box,h.chart.kept hg (row_apart h.lines h.chart (by decide)),h.flows.kept hg (row_apart h.lines h.flows (by decide)),h.ents.kept hg (row_apart h.lines h.ents (by decide)),h.map.kept hg (map_apart h.map h.lines)⟩
theorem box_nine {W:World} {R m:Nat} {c f e l:Value} {M:Mast} (h:BoxRd W R m c f e l M):NineAt W R c f e l M:=nine_of (more:=[.map (some m)]) h
theorem box_free {W:World} {R m:Nat} {c f e l:Value} {M:Mast} (h:BoxRd W R m c f e l M) (o:Nat):W.frozen? ⟨R,o,none⟩=false:=by
 unfold BoxRd at h
 simp [World.frozen?,h]
structure EntPutAt (W w3:World) (B R m n:Nat) (c f e l:Value) (D:DataW Unit) (M:Mast) (u:Value) (N:List Ent):Prop where
 box:BoxRd w3 R m c f e l M
 chart:w3.ownsRow B 99 6 c M.chart.length (flatA M.chart)
 flows:w3.ownsRow B 143 2 f M.flows.length (flat Fl.encF M.flows)
 ents:w3.ownsRow B 188 2 u N.length (flat encE N)
 lines:w3.ownsRow B 207 3 l M.lines.length (flat encL M.lines)
 map:MapRd w3 m n D
 bel:Below B W w3
 geR:B≤R
 geM:B≤m
theorem EntPutAt.stored {W w3:World} {B R m n:Nat} {c f e l:Value} {D:DataW Unit} {M:Mast} {u:Value} {N:List Ent} (h:EntPutAt W w3 B R m n c f e l D M u N):RdAt (w3.setCell ⟨R,2,none⟩ u) B R m c f u l n D { M with ents:=N } :=
 rd_stored 2 _ h.box rfl h.chart h.flows h.ents h.lines h.map h.geR h.geM
def EntPutTold (W:World) (B R m n:Nat) (c f e l:Value) (D:DataW Unit) (M:Mast) (N:List Ent) (E:Int) (en:Ending) (w3:World):Prop :=
 ∃ p9 n9 c9,en=.returned (.tuple #[.slice p9 n9 c9,.int .i64 E])∧w3.cell? ⟨R,2,none⟩=some e∧w3.frozen? ⟨R,2,none⟩=false∧Hid (Below B W (w3.setCell ⟨R,2,none⟩ (.slice p9 n9 c9))∧(E=0→EntPutAt W w3 B R m n c f e l D M (.slice p9 n9 c9) N))
theorem ent_put (a b:ByteArray) (W:World) (B R m n:Nat) (c f e l:Value) (D:DataW Unit) (M:Mast) (h:RdAt W B R m c f e l n D M) (hB:B≤W.heap.size) (hri:G.riseK Ent.code M.ents=true) (hL:M.ents.length≤1000) :
 Calls Tryz.prog 108 #[e,aggE ⟨a,b⟩,.int .i64 60,.func (.func 109) #[] #[]] W (EntPutTold W B R m n c f e l D M (G.insK Ent.code M.ents ⟨a,b⟩) (if 60≤M.ents.length then 4 else 0)) :=
 (En.put_any e M.ents ⟨a,b⟩ 60 B W h.ents hB hri hL).mono fun en w3 hp=>by
  obtain ⟨p9,n9,c9,rfl,hg9,ho9⟩:=hp
  obtain ⟨h1,h2,h3,h4,h5⟩:=h.entsTurned hg9
  have hbl:=below_grown (Below.refl B W) hB h.ents hg9
  refine ⟨p9,n9,c9,rfl,(box_nine h1).c2,box_free h1 2,Lib.hid ⟨below_stored hbl h.geR 2 _,fun h0=>?_⟩⟩
  have hn:¬ 60≤M.ents.length:=fun hn=>by rw [if_pos hn] at h0;simp at h0
  exact ⟨h1,h2,h3,ho9 hn,h4,h5,hbl,h.geR,h.geM⟩
set_option maxRecDepth 100000 in
set_option maxHeartbeats 16000000 in
theorem keep_ent (v:Value) (a b:ByteArray) (W:World) (B R m n:Nat) (c f e l:Value) (D:DataW Unit) (M:Mast) (hv:StrsV W v [tEntity,a,b]) (h:RdAt W B R m c f e l n D M) (hB:B≤W.heap.size) (hri:G.riseK Ent.code M.ents=true) (hL:M.ents.length≤1000) :
 Calls Tryz.prog 68 #[.pointer (some ⟨R,0,none⟩),v] W (ReadTold W B R m n D { M with ents:=G.insK Ent.code M.ents ⟨a,b⟩ } (if 60≤M.ents.length then 4 else 0)):=by
 obtain ⟨p,cp,rfl,_,_,hc⟩:=hv
 obtain ⟨g,o,rfl,k0⟩:=hc 0 tEntity rfl
 obtain ⟨g',o',e1,k1⟩:=hc 1 a rfl
 cases e1
 obtain ⟨g',o',e1,k2⟩:=hc 2 b rfl
 cases e1
 rw [Nat.add_zero] at k0
 have g1:(tEntity.toList==[101,110,116,105,116,121])=true:=by rw [qEntity];decide
 have hd:RdAt W.drew B R m c f e l n D M:=h.below ⟨rfl,rfl,rfl,Nat.le_refl _,fun _ _=>rfl⟩
 have HPU:=Lib.hid (ent_put a b W.drew B R m n c f e l D M hd hB hri hL)
 obtain ⟨NE,hNE⟩:∃ NE,G.insK Ent.code M.ents ⟨a,b⟩=NE:=⟨_,rfl⟩
 rw [hNE] at HPU ⊢
 obtain ⟨E,hE⟩:∃ E:Int,(if 60≤M.ents.length then 4 else 0)=E:=⟨_,rfl⟩
 rw [hE] at HPU ⊢
 obtain ⟨MM,hMM⟩:∃ MM:Mast,({ M with ents:=NE }:Mast)=MM:=⟨_,rfl⟩
 rw [hMM]
 have HMM:=Lib.hid hMM
 obtain ⟨k00,k01,k02,k03,k04,k05,k06,k07,k08⟩:=hd.nine
 have j1:W.drew.cell? ⟨g,o+1,none⟩=some (.string a):=k1
 have j2:W.drew.cell? ⟨g,o+2,none⟩=some (.string b):=k2
 clear hE hc hNE hMM h hd hB hri hL k00 k01 k03 k04 k05 k06 k07 k08
 go_enter Tryz.func68,Tryz.ntmps68
 go_wp2_with fail
 clear k0 k1 k2 g1
 go_region_with (first
  | (go_at_call 108;refine HPU.out.mono ?_;rintro en w3 ⟨p9,n9,c9,rfl,hz,hfz,HP⟩;clear j1 j2 k02)
  | fail)
 all_goals
  clear hz hfz
  go_wp2
  go_ret
  exact ⟨rfl,(show Below B W _ from below_undrawn HP.out.1),fun h0=>⟨_,_,_,_,by rw [←HMM.out];exact (HP.out.2 h0).stored⟩⟩
end Go.Proofs.YtdegffffcbhjbaaGreatDoor.Un
end
