/- UnitCheckA LexCut LexIter LexLines UnitParse -/
import Derived.LoopIn
import Derived.LoopNIn
import Derived.OwnWalkIn
import Derived.RangeFuncBound
import Derived.RangeFuncCalls
import Derived.RangeFuncLeaves
import Derived.RangeFuncNested
import Derived.Shelf.Abstract
import Derived.Shelf.RegionOpen
import Derived.TacticsInMore
import Derived.Test.YtdhfpgjnjlcciaaGreatDoorQ09
section
namespace Go.Proofs.YtdhfpgjnjlcciaaGreatDoor.Un
open Go.RowKit
theorem za2 (M:Mast):allE M=if (decide (M.cur=emp) || !rolesN M || !linesN M)=true then 6 else if Fl.wholeF M.flows=false then 8 else if rolesP M=false then 15 else 0:=rfl
theorem VD (s:ByteArray):s.toList.isEmpty=decide (s=emp):=by
 rw [Bool.eq_iff_iff,decide_eq_true_eq]
 have:=ji s
 unfold neB at this
 cases h:s.toList.isEmpty with
 | false=>rw [h] at this;simp at this;simp [this]
 | true=>rw [h] at this;simp at this;simp [this]
set_option maxRecDepth 100000 in
set_option maxHeartbeats 4000000 in
theorem yJ (c f e l:Value) (M:Mast) (w:World) (h:MastIn w c f e l M) (hri:riseK Fl.Flow.code M.flows=true) (hfl:M.flows.length≤1000) :
 Calls Tryz.prog 60 #[aggM c f e l M] w fun en w'=>en=.returned (.int .i64 (allE M))∧Below w.heap.size w w':=by
 have HB0:=Lib.hid ((Below.refl w.heap.size w).alloc (Nat.le_refl _) (.cells (cellsM c f e l M) 33))
 have HN0:=Lib.hid (zM w c f e l M 33)
 have HM0:=Lib.hid (h.keep HB0.out)
 have HA:=Lib.hid (fun W hW=>zgS c f e l M W hW)
 have HB:=Lib.hid (fun W hW=>zfm c f e l M W hW hri hfl)
 have HC:=Lib.hid (fun W hW=>zhe c f e l M W hW)
 have HD:=Lib.hid (fun v W hW=>Fl.zc2 v M.flows W hW hfl)
 have hall:=za2 M
 obtain ⟨E,hE⟩:∃ E,allE M=E:=⟨_,rfl⟩
 obtain ⟨a,ha⟩:∃ a,rolesN M=a:=⟨_,rfl⟩
 obtain ⟨b,hb⟩:∃ b,linesN M=b:=⟨_,rfl⟩
 obtain ⟨p,hp⟩:∃ p,rolesP M=p:=⟨_,rfl⟩
 obtain ⟨q,hq⟩:∃ q,Fl.wholeF M.flows=q:=⟨_,rfl⟩
 simp only [ha] at HA
 simp only [hb] at HB
 simp only [hp] at HC
 simp only [hq] at HD
 rw [hE,ha,hb,hp,hq] at hall
 rw [hE]
 have HALL:=Lib.hid hall
 clear hall hE ha hb hp hq h hri hfl
 obtain ⟨c0,c1,c2,c3,c4,c5,c6,c7,c8⟩:=HN0.out
 by_cases hcur:M.cur=emp
 ·have HE6:Hid (E=6):=Lib.hid (by rw [HALL.out,decide_eq_true hcur];rfl)
  have hc:M.cur.toList.isEmpty=true:=by rw [VD];exact decide_eq_true hcur
  clear hcur
  go_enter Tryz.func60,Tryz.ntmps60
  go_wp2
  go_ret
  exact ⟨by rw [HE6.out];rfl,HB0.out⟩
 ·have hc:M.cur.toList.isEmpty=false:=by rw [VD];exact decide_eq_false hcur
  rw [decide_eq_false hcur] at HALL
  clear hcur
  go_enter Tryz.func60,Tryz.ntmps60
  go_wp2_with fail
  clear c0 c1 c2 c3 c4 c5 c6 c7 c8
  refine (HA.out _ HM0.out).mono ?_
  rintro en w1 ⟨rfl,hb1⟩
  have HB1:=Lib.hid (HB0.out.trans (hb1.mono HB0.out.size))
  have HN1:=Lib.hid (HN0.out.kept hb1)
  have HM1:=Lib.hid (HM0.out.keep hb1)
  obtain ⟨c0,c1,c2,c3,c4,c5,c6,c7,c8⟩:=HN1.out
  clear hb1
  cases a with
  | false =>
    have HE6:Hid (E=6):=Lib.hid (by rw [HALL.out];rfl)
    go_wp2
    go_ret
    exact ⟨by rw [HE6.out];rfl,HB1.out⟩
  | true =>
    go_wp2_with fail
    clear c0 c1 c2 c3 c4 c5 c6 c7 c8
    refine (HB.out _ HM1.out).mono ?_
    rintro en w2 ⟨rfl,hb2⟩
    have HB2:=Lib.hid (HB1.out.trans (hb2.mono HB1.out.size))
    have HN2:=Lib.hid (HN1.out.kept hb2)
    have HM2:=Lib.hid (HM1.out.keep hb2)
    obtain ⟨c0,c1,c2,c3,c4,c5,c6,c7,c8⟩:=HN2.out
    clear hb2
    cases b with
    | false =>
      have HE6:Hid (E=6):=Lib.hid (by rw [HALL.out];rfl)
      go_wp2
      go_ret
      exact ⟨by rw [HE6.out];rfl,HB2.out⟩
    | true =>
      go_wp2_with fail
      clear c0 c1 c2 c3 c4 c5 c6 c7 c8
      refine (HD.out _ _ HM2.out.flows).mono ?_
      rintro en w3 ⟨rfl,hb3⟩
      have HB3:=Lib.hid (HB2.out.trans (hb3.mono HB2.out.size))
      have HN3:=Lib.hid (HN2.out.kept hb3)
      have HM3:=Lib.hid (HM2.out.keep hb3)
      obtain ⟨c0,c1,c2,c3,c4,c5,c6,c7,c8⟩:=HN3.out
      clear hb3
      cases q with
      | false =>
        have HE6:Hid (E=8):=Lib.hid (by rw [HALL.out];rfl)
        go_wp2
        go_ret
        exact ⟨by rw [HE6.out];rfl,HB3.out⟩
      | true =>
        go_wp2_with fail
        clear c0 c1 c2 c3 c4 c5 c6 c7 c8
        refine (HC.out _ HM3.out).mono ?_
        rintro en w4 ⟨rfl,hb4⟩
        have HB4:=Lib.hid (HB3.out.trans (hb4.mono HB3.out.size))
        clear hb4
        cases p with
        | false =>
          have HE6:Hid (E=15):=Lib.hid (by rw [HALL.out];rfl)
          go_wp2
          go_ret
          exact ⟨by rw [HE6.out];rfl,HB4.out⟩
        | true =>
          have HE6:Hid (E=0):=Lib.hid (by rw [HALL.out];rfl)
          go_wp2
          go_ret
          exact ⟨by rw [HE6.out];rfl,HB4.out⟩
end Go.Proofs.YtdhfpgjnjlcciaaGreatDoor.Un
end
section
namespace Go.Proofs.YtdhfpgjnjlcciaaGreatDoor
open Go.RowKit Go.Shelf
set_option maxHeartbeats 400000 in
theorem zey (d:UInt8) (s:ByteArray) (w:World) (h:Lib.indexByte s.data.toList d=-1) :
 Calls Tryz.prog 155 #[.string s,.string ⟨#[d]⟩] w fun e w'=>e=.returned (.tuple #[.string s,.string ⟨#[]⟩,.bool false])∧w=w':=by
 have H:=Lib.hid h
 clear h
 go_enter Tryz.func155,Tryz.ntmps155
 go_wp2_with fail
 refine (Tryz.stringslite_Index_one s d _).mono ?_
 rintro e w' ⟨rfl,rfl⟩
 rw [H.out]
 go_wp2
 go_ret3
 exact ⟨rfl,rfl⟩
set_option maxHeartbeats 400000 in
theorem ze8 (d:UInt8) (s:ByteArray) (i:Nat) (w:World) (h:Lib.indexByte s.data.toList d=(i:Int)) (hi:i < s.size) (hs:s.size≤maxLen) :
 Calls Tryz.prog 155 #[.string s,.string ⟨#[d]⟩] w fun e w'=>e=.returned (.tuple #[.string (s.extract 0 i),.string (s.extract (i+1) s.size),.bool true])∧∃ n,w'=w.drewN n:=by
 have H:=Lib.hid h
 clear h
 unfold maxLen at hs
 have c1:(0:Int)≤↑i:=by omega
 have c2:(↑i:Int)≤↑s.size:=by omega
 have c3:(0:Int)≤↑i+1:=by omega
 have c4:(↑i+1:Int)≤↑s.size:=by omega
 have c5:IntKind.i64.wrap (↑i+1)=↑i+1:=IntWalk.i64_in _ (by omega)
 have c6:((↑i:Int)+1).toNat=i+1:=by omega
 go_enter Tryz.func155,Tryz.ntmps155
 go_wp2_with fail
 refine (Tryz.stringslite_Index_one s d _).mono ?_
 rintro e w' ⟨rfl,rfl⟩
 rw [H.out]
 go_wp2
 go_region
 go_wp2
 go_ret3
 exact ⟨rfl,1,rfl⟩
set_option maxHeartbeats 400000 in
theorem YE (d:UInt8) (s:ByteArray) (w:World) (h:Lib.indexByte s.data.toList d=-1) :
 Calls Tryz.prog 110 #[.string s,.string ⟨#[d]⟩] w fun e w'=>e=.returned (.tuple #[.string s,.string ⟨#[]⟩,.bool false])∧w=w':=by
 have H:=Lib.hid h
 clear h
 go_enter Tryz.func110,Tryz.ntmps110
 go_wp2_with fail
 refine (zey d s _ H.out).mono ?_
 rintro e w' ⟨rfl,rfl⟩
 go_wp2
 go_ret3
 exact ⟨rfl,rfl⟩
set_option maxHeartbeats 400000 in
theorem YK (d:UInt8) (s:ByteArray) (i:Nat) (w:World) (h:Lib.indexByte s.data.toList d=(i:Int)) (hi:i < s.size) (hs:s.size≤maxLen) :
 Calls Tryz.prog 110 #[.string s,.string ⟨#[d]⟩] w fun e w'=>e=.returned (.tuple #[.string (s.extract 0 i),.string (s.extract (i+1) s.size),.bool true])∧∃ n,w'=w.drewN n:=by
 have H:=Lib.hid h
 have HI:=Lib.hid hi
 have HS:=Lib.hid hs
 clear h hi hs
 go_enter Tryz.func110,Tryz.ntmps110
 go_wp2_with fail
 refine (ze8 d s i _ H.out HI.out HS.out).mono ?_
 rintro e w' ⟨rfl,n,rfl⟩
 go_wp2
 go_ret3
 exact ⟨rfl,n,rfl⟩
def yq (w:World) (ws:List ByteArray) (e:Ending) (w':World):Prop :=
 ∃ A,e=.returned (.slice (some ⟨A,0,none⟩) ws.length ws.length)∧w.heap.size≤A ∧
   w'.ownsRow w.heap.size 9 1 (.slice (some ⟨A,0,none⟩) ws.length ws.length) ws.length (ws.map Value.string)∧Below w.heap.size w w'
theorem ziw (w:World):PredAtRunes Tryz.prog 112 #[] gapR w:=fun W x hx _ =>
 (zcu x W hx).mono fun _ _ ⟨he,hw⟩=>⟨he,0,hw.symm⟩
theorem zaF (s:ByteArray) (w:World) (hs:s.size≤30000) (ha:∀ c∈s.data.toList,c.toNat < 128) :
 Calls Tryz.prog 111 #[.string s,.func (.func 112) #[] #[]] w (yq w ((zg [] s.data.toList).map mkB)):=by
 rw [←zfw s ha]
 exact Tryz.strings_FieldsFunc_runes 112 #[] (enters_of Tryz.func112 (by kernel_rfl) rfl) gapR s w (by omega) (ziw w)
theorem yq.from {w w0:World} {ws:List ByteArray} {e:Ending} {w':World} (h:yq w0 ws e w') (hb:Below w.heap.size w w0) (hz:w0.heap.size=w.heap.size):yq w ws e w':=by
 obtain ⟨A,he,hA,ho,hb'⟩:=h
 rw [hz] at hA ho hb'
 exact ⟨A,he,hA,ho,hb.trans hb'⟩
set_option maxHeartbeats 400000 in
theorem zf7 (s:ByteArray) (w:World) (hs:s.size≤30000) (ha:∀ c∈s.data.toList,c.toNat < 128) :
 Calls Tryz.prog 79 #[.string s] w (yq w ((wordsL s.data.toList).map mkB)):=by
 rcases Kh 35 s.data.toList with ⟨h1,h2⟩ | ⟨i,h1,h2,h3,h4⟩
 ·have e0:wordsL s.data.toList=zg [] s.data.toList:=by unfold wordsL;rw [zaj _ h2]
  rw [e0]
  have H:=Lib.hid h1
  have HA:=Lib.hid ha
  have HF:=Lib.hid (zaF s w hs ha)
  clear h1 h2 e0 ha
  obtain ⟨ws,hws⟩:∃ ws,(zg [] s.data.toList).map mkB=ws:=⟨_,rfl⟩
  rw [hws] at HF ⊢
  clear hws
  go_enter Tryz.func79,Tryz.ntmps79
  go_wp2_with fail
  refine (YE 35 s _ H.out).mono ?_
  rintro e w' ⟨rfl,rfl⟩
  go_wp2_with fail
  refine HF.out.mono ?_
  rintro e w1 ⟨A,rfl,hA,ho,hb⟩
  go_wp2
  go_ret
  exact ⟨A,rfl,hA,ho,hb⟩
 ·have hi:i < s.size:=by rw [←zv];exact h2
  have e0:wordsL s.data.toList=zg [] (s.data.toList.take i):=by
   unfold wordsL
   have:said s.data.toList=s.data.toList.take i:=by
    conv=>lhs;rw [h4]
    exact QC _ _ h3
   rw [this]
  rw [e0]
  have hx:(s.extract 0 i).data.toList=s.data.toList.take i:=by rw [Y7,qK]
  have hz:(s.extract 0 i).size≤30000:=by rw [←zv,hx,List.length_take];have:=zv s;omega
  have ha':∀ c∈(s.extract 0 i).data.toList,c.toNat < 128:=fun c hc=>ha c (by rw [hx] at hc;exact List.mem_of_mem_take hc)
  have HF:Hid (∀ n,Calls Tryz.prog 111 #[.string (s.extract 0 i),.func (.func 112) #[] #[]] (w.drewN n) (yq w ((zg [] (s.data.toList.take i)).map mkB))):=Lib.hid fun n=>by
   have:=zaF (s.extract 0 i) (w.drewN n) hz ha'
   rw [hx] at this
   exact this.mono fun e w' h=>h.from (below_drewN (Below.refl _ _) n) (by simp)
  have H:=Lib.hid h1
  have HI:=Lib.hid hi
  have HS:Hid (s.size≤maxLen):=Lib.hid (by unfold maxLen;omega)
  clear h1 h2 h3 h4 hi e0 hx hz ha' ha hs
  obtain ⟨ws,hws⟩:∃ ws,(zg [] (s.data.toList.take i)).map mkB=ws:=⟨_,rfl⟩
  rw [hws] at HF ⊢
  clear hws
  obtain ⟨u,hu⟩:∃ u,s.extract 0 i=u:=⟨_,rfl⟩
  obtain ⟨v,hv⟩:∃ v,s.extract (i+1) s.size=v:=⟨_,rfl⟩
  rw [hu] at HF
  have HU:=Lib.hid (And.intro hu hv)
  clear hu hv
  go_enter Tryz.func79,Tryz.ntmps79
  go_wp2_with fail
  refine (YK 35 s i _ H.out HI.out HS.out).mono ?_
  rintro e w' ⟨rfl,n,rfl⟩
  rw [HU.out.1,HU.out.2]
  go_wp2_with fail
  refine (HF.out n).mono ?_
  rintro e w1 ⟨A,rfl,hA,ho,hb⟩
  go_wp2
  go_ret
  exact ⟨A,rfl,hA,ho,hb⟩
end Go.Proofs.YtdhfpgjnjlcciaaGreatDoor
end
section
namespace Go.Proofs.YtdhfpgjnjlcciaaGreatDoor
open Go.RowKit Go.Shelf
attribute [local go_sem] Oper.semAt_some
def LineX:Type:={ x:Nat × List UInt8 // x.1≤30001∧x.2.length≤20000∧okL x.2=true }
def LineX.n (x:LineX):Nat:=x.1.1
def LineX.l (x:LineX):List UInt8:=x.1.2
def LineX.pair (x:LineX):Nat × List UInt8:=(x.n,x.l)
def encX (x:LineX):Array Value:=#[.int .i64 (x.n:Int),.string (mkB x.l)]
theorem linesX:∀ (L:List (List UInt8)) (n:Nat),n+L.length≤30001→(∀ x∈L,okL x=true∧x.length≤20000)→∃ xs:List LineX,xs.map LineX.pair=enumL n L
 | [],_,_,_=>⟨[],rfl⟩
 | x::r,n,h,hx=>by
   simp at h
   obtain ⟨xs,hxs⟩:=linesX r (n+1) (by omega) fun y hy=>hx y (List.mem_cons_of_mem _ hy)
   have h1:=hx x (List.mem_cons_self ..)
   have y:{ y:LineX // y.pair=(n,x) }:=⟨⟨(n,x),by simp;omega,h1.2,h1.1⟩,rfl⟩
   exact ⟨y.1::xs,by rw [List.map_cons,hxs,y.2];rfl⟩
theorem zfo (w:World) (n:Nat):w.grownBy (w.drewN n) none:=by
 have h:=below_drewN (Below.refl w.heap.size w) n
 exact ⟨h.os,h.tape,h.output,h.size,fun j hj _=>h.block j hj⟩
def restOf:Value→Value→Nat
 | .string r,.bool true=>r.size+1
 | _,_=>0
def IterAt (J:List LineX→World→Prop) (xs:List LineX) (s3 s4 s5:Value) (wr:World):Prop :=
 ∃ (pre post:List LineX) (r:ByteArray) (m:Bool) (n:Nat),s3=.string r∧s4=.bool m∧s5=.int .i64 (n:Int)∧xs=pre++post ∧
   (m=true→post.map LineX.pair=enumL n (zn [] r.data.toList))∧(m=false→post=[])∧r.size≤20000∧n+post.length≤30001∧J pre wr
set_option maxRecDepth 100000 in
set_option maxHeartbeats 2000000 in
theorem zir (n:Nat) (hn:1≤n) (l Bn n₀:Nat) (s:ByteArray) (hs:s.size≤20000) (xs:List LineX) (hxs:xs.map LineX.pair=enumL 1 (zn [] s.data.toList)) (J Jx:List LineX→World→Prop)
 (hJ:∀ q A k,J q A→J q (A.drewN k))
 (hY:∀ pre x W,J pre W→pre.length < xs.length→YieldAt Fence.wide (n - 1) Tryz.prog l (encX x) W fun e W' =>
  (e=.returned (.bool true)∧J (pre++[x]) W'∧Below n₀ W W')∨(e=.returned (.bool false)∧Jx (pre++[x]) W'))
 (W:World) (hBn:W.cell? ⟨Bn,0,none⟩=some (.string s)) (h0:J [] W) :
 CallsIn Fence.wide n Tryz.prog 109 #[.func (.yield l) #[] #[],.pointer (some ⟨Bn,0,none⟩)] W fun e W'=>(∃ v,e=.returned v) ∧
  ((∃ ys,ys=xs∧J ys W')∨(∃ pre,pre <+: xs∧Jx pre W')):=by
 have hlen:1+xs.length≤30001:=by
  have h1:=congrArg List.length hxs
  rw [List.length_map,xh] at h1
  have h2:=vt [] s.data.toList
  rw [zv] at h2
  omega
 have HX:=Lib.hid hxs
 have HL:=Lib.hid hlen
 have HJ:=Lib.hid hJ
 have HY:=Lib.hid hY
 clear hxs hlen hJ hY
 refine callsIn_of_wp Tryz.func109 rfl trivial ?_ rfl
 simp only [Tryz.ntmps109,List.size_toArray,List.length_cons,List.length_nil,Nat.reduceAdd,Nat.reduceSub,Array.replicate_succ,Array.replicate_zero,List.push_toArray,List.append_toArray,List.nil_append,List.cons_append]
 gi_wp2
 gi_loopw [3,4,5] (fun s3 s4 s5 wr=>IterAt J xs s3 s4 s5 wr) (fun s3 s4 _ _=>restOf s3 s4)
 case atStart =>
  exact ⟨[],xs,s,true,1,rfl,rfl,rfl,rfl,fun _=>HX.out,(fun h=>by cases h),hs,HL.out,h0⟩
 case round =>
  obtain ⟨pre,post,r,m,k,rfl,rfl,rfl,hx,hm,hf,hr,hk,hJs⟩:=hrel
  cases m with
  | false =>
    obtain rfl:=hf rfl
    have HXX:=Lib.hid hx
    clear hx hm hf hk
    gi_wp2
    go_end0
    exact ⟨⟨_,rfl⟩,.inl ⟨pre,by rw [HXX.out];simp,hJs⟩⟩
  | true =>
    have hkb:k≤30001:=by omega
    replace hm:=hm rfl
    clear hf
    rcases Kh 10 r.data.toList with ⟨h1,h2⟩ | ⟨i,h1,h2,h3,h4⟩
    ·rw [zgB _ h2] at hm
     obtain ⟨x,rfl⟩:∃ x,post=[x]:=by
      have:=congrArg List.length hm
      simp [enumL] at this
      exact List.length_eq_one_iff.1 this
     have hxp:x.pair=(k,r.data.toList):=by simpa [enumL] using hm
     have hxn:x.n=k:=congrArg Prod.fst hxp
     have hxl:mkB x.l=r:=by rw [show x.l=r.data.toList from congrArg Prod.snd hxp,qJ]
     obtain ⟨fn,tmps,assign,body,hy,hR⟩:=HY.out pre x wr hJs (by rw [hx];simp)
     unfold encX at hy
     rw [hxn,hxl] at hy
     have HXX:=Lib.hid hx
     have H:=Lib.hid h1
     have HK:=Lib.hid hk
     clear hx h1 h2 hm hxp hxn hxl hk
     gi_wp2_with (refine ⟨trivial,?_⟩;gi_at_call 110;refine (callsIn_wide.2 (YE 10 r _ H.out)).mono ?_;rintro e w' ⟨rfl,rfl⟩)
     refine hR.mono ?_
     rintro e W3 (⟨rfl,hJ3,hk3⟩ | ⟨rfl,hJx3⟩)
     ·gi_wp2
      go_roundw
      case rel=>exact ⟨pre++[x],[],⟨#[]⟩,false,k+1,rfl,rfl,by simp,by rw [HXX.out];simp,(fun h=>by cases h),fun _=>rfl,by decide,by have:=HK.out;simp at this ⊢;omega,hJ3⟩
      case measure=>simp [restOf]
     ·gi_wp2
      refine bodyPost_ret (results_none rfl _ _ _) rfl ?_
      exact ⟨⟨_,rfl⟩,.inr ⟨pre++[x],⟨[],by rw [HXX.out];simp⟩,hJx3⟩⟩
    ·have hi:i < r.size:=by rw [←zv];exact h2
     have hcut:zn [] r.data.toList=r.data.toList.take i::zn [] (r.data.toList.drop (i+1)):=by
      conv=>lhs;rw [h4]
      exact kX _ _ h3
     rw [hcut] at hm
     obtain ⟨x,post',rfl⟩:∃ x post',post=x::post':=by
      cases post with
      | nil=>simp [enumL] at hm
      | cons x p=>exact ⟨x,p,rfl⟩
     simp only [enumL,List.map_cons,List.cons.injEq] at hm
     obtain ⟨hxp,hpost⟩:=hm
     have hxn:x.n=k:=congrArg Prod.fst hxp
     have hxl:mkB x.l=r.extract 0 i:=by rw [show x.l=_ from congrArg Prod.snd hxp,Y7]
     obtain ⟨u,hu⟩:∃ u,r.extract 0 i=u:=⟨_,rfl⟩
     obtain ⟨v,hv⟩:∃ v,r.extract (i+1) r.size=v:=⟨_,rfl⟩
     rw [hu] at hxl
     have hvl:v.data.toList=r.data.toList.drop (i+1):=by rw [←hv,zcL,qK]
     have hvs:v.size < r.size:=by rw [←zv,hvl,List.length_drop,zv];omega
     rw [←hvl] at hpost
     have HUV:=Lib.hid (And.intro hu hv)
     have HC:=Lib.hid (fun w=>YK 10 r i w h1 hi (by unfold maxLen;omega))
     have HYY:=Lib.hid (fun q=>HY.out pre x (wr.drewN q) (HJ.out _ _ q hJs) (by rw [hx];simp))
     have HXX:=Lib.hid hx
     have HK:=Lib.hid hk
     have HP:=Lib.hid hpost
     have HN:=Lib.hid (And.intro hxn hxl)
     clear hx h1 h2 h3 h4 hcut hxp hxn hxl hk hpost hvl hu hv hi
     gi_wp2_with (refine ⟨trivial,?_⟩;gi_at_call 110;refine (callsIn_wide.2 (HC.out _)).mono ?_;rintro e w' ⟨rfl,q,rfl⟩;rw [HUV.out.1,HUV.out.2];obtain ⟨fn,tmps,assign,body,hy,hR⟩:=HYY.out q;unfold encX at hy;rw [HN.out.1,HN.out.2] at hy)
     refine hR.mono ?_
     rintro e W3 (⟨rfl,hJ3,hk3⟩ | ⟨rfl,hJx3⟩)
     ·gi_wp2
      go_roundw
      case rel=>exact ⟨pre++[x],post',v,true,k+1,rfl,rfl,by simp,by rw [HXX.out];simp,fun _=>HP.out,(fun h=>by cases h),by omega,by have:=HK.out;simp at this ⊢;omega,hJ3⟩
      case measure=>simp [restOf];omega
     ·gi_wp2
      refine bodyPost_ret (results_none rfl _ _ _) rfl ?_
      exact ⟨⟨_,rfl⟩,.inr ⟨pre++[x],⟨post',by rw [HXX.out];simp⟩,hJx3⟩⟩
set_option maxHeartbeats 1000000 in
theorem ziy (n:Nat) (s:ByteArray) (w:World) :
 CallsIn Fence.wide n Tryz.prog 78 #[.string s] w fun e w'=>e=.returned (.func (.func 109) #[] #[.pointer (some ⟨w.heap.size,0,none⟩)])∧w'=w.alloc (.cells #[.string s] 9):=by
 refine callsIn_of_wp Tryz.func78 rfl trivial ?_ rfl
 simp only [Tryz.ntmps78,List.size_toArray,List.length_cons,List.length_nil,Nat.reduceAdd,Nat.reduceSub,Array.replicate_succ,Array.replicate_zero,List.push_toArray,List.append_toArray,List.nil_append,List.cons_append]
 gi_wp2
 go_ret
 exact ⟨rfl,rfl⟩
theorem ziA (n:Nat) (hn:1≤n) (Bn n₀:Nat) (s:ByteArray) (hs:s.size≤20000) (xs:List LineX) (hxs:xs.map LineX.pair=enumL 1 (zn [] s.data.toList)) (w:World) (hBn:Bn < w.heap.size) (hc:w.cell? ⟨Bn,0,none⟩=some (.string s)) :
 SeqStopsK Fence.wide n Tryz.prog 109 #[.pointer (some ⟨Bn,0,none⟩)] encX (Below n₀) (fun ys=>ys=xs) (fun pre=>pre <+: xs) xs.length w:=fun l J Jx W hW hJ _ hY h0 =>
 zir n hn l Bn n₀ s hs xs hxs J Jx (fun q A k h=>hJ q A _ none h (zfo A k) (fun r e=>by cases e)) hY W ((hW.cell (p:=⟨Bn,0,none⟩) hBn).trans hc) h0
end Go.Proofs.YtdhfpgjnjlcciaaGreatDoor
end
section
namespace Go.Proofs.YtdhfpgjnjlcciaaGreatDoor
open Go.RowKit Go.Shelf
attribute [local go_sem] Oper.semAt_some
def x9 (w:World) (L:List (Int × List ByteArray)) (c:Int) (e:Ending) (w':World):Prop :=
 ∃ v,e=.returned (.tuple #[v,.int .i64 c])∧LinesV w' v L∧Below w.heap.size w w'
theorem zdD:(Tryz.prog.info? 124).map (fun i=>(i.zero,i.size,i.bytes))=some (some (.agg #[.int .i64 0,.slice none 0 0]),2,32):=by kernel_rfl
theorem KD (l:List UInt8) (h:20000 < l.length):linE l=4∧linV l=[]:=by simp [linE,linV,h]
theorem Vk (l:List UInt8) (h:l.length≤20000) (ho:okL l=false):linE l=5∧linV l=[]:=by simp [linE,linV,Nat.not_lt.2 h,ho]
theorem XX (l:List UInt8) (h:l.length≤20000) (ho:okL l=true):linE l=0∧linV l=linesL l:=by simp [linE,linV,Nat.not_lt.2 h,ho]
def qP (pre:List LineX):List (Int × List ByteArray):=asB (numP (pre.map LineX.pair))
theorem zdV (pre:List LineX) (x:LineX) (h:wordsL x.l≠[]):qP (pre++[x])=qP pre++[((x.n:Int),(wordsL x.l).map mkB)]:=by
 unfold qP
 rw [List.map_append,List.map_cons,List.map_nil,zeK _ _ (by exact h),Yy]
 rfl
theorem zeM (pre:List LineX) (x:LineX) (h:wordsL x.l=[]):qP (pre++[x])=qP pre:=by
 unfold qP
 rw [List.map_append,List.map_cons,List.map_nil,zgq _ _ (by exact h)]
theorem zfq (pre:List LineX):(qP pre).length≤pre.length:=by
 unfold qP
 rw [vH]
 have:=ZU (pre.map LineX.pair)
 simpa using this
def LinesI (w:World) (pre:List LineX) (W:World):Prop :=
 ∃ v LV,Boxed W w.heap.size 117 v∧W.ownsRow w.heap.size 124 2 v LV.length (flatL LV)∧zP W w.heap.size 9 LV (qP pre)
theorem zid (w:World):Own (LinesI w):=by
 rintro s X Y row ⟨v,LV,hv,hr,hw⟩ hg hrow
 refine ⟨v,LV,hv.kept hg (fun e'=>?_),yu hr hg hrow,hw.mono fun u n xs hu=>yu hu hg hrow⟩
 obtain ⟨o,ho,hc⟩:=hrow _ e'.symm
 rw [show X.heap[w.heap.size]?=_ from hv] at ho;cases ho;cases hc
theorem zjn (s:ByteArray) (w:World) (h:20000 < s.size) (hs:s.size≤30000) :
 Calls Tryz.prog 51 #[.string s] w (x9 w [] 4):=by
 go_enter Tryz.func51,Tryz.ntmps51
 go_wp2
 go_ret2
 exact ⟨_,rfl,LinesV.nil _,Below.refl _ _⟩
theorem zgv (s:ByteArray) (w:World) (hs:s.size≤20000) (ho:okL s.data.toList=false) :
 Calls Tryz.prog 51 #[.string s] w (x9 w [] 5):=by
 have HO:=Lib.hid ho
 have HS:Hid (s.size≤maxLen):=Lib.hid (by unfold maxLen;omega)
 clear ho
 have h1:¬ 20000 < s.size:=by omega
 go_enter Tryz.func51,Tryz.ntmps51
 go_wp2_with fail
 refine (Kk s _ HS.out).mono ?_
 rintro e w' ⟨rfl,rfl⟩
 rw [HO.out]
 go_wp2
 go_ret2
 exact ⟨_,rfl,LinesV.nil _,Below.refl _ _⟩
set_option maxRecDepth 100000 in
set_option maxHeartbeats 2000000 in
theorem ze7 (s:ByteArray) (w:World) (hs:s.size≤20000) (ho:okL s.data.toList=true) :
 Calls Tryz.prog 51 #[.string s] w (x9 w (asB (linesL s.data.toList)) 0):=by
 have hall:=zal okB [] s.data.toList rfl ho
 have hlen:=vt [] s.data.toList
 have hsl:=zv s
 obtain ⟨xs,hxs⟩:=linesX (zn [] s.data.toList) 1 (by omega) fun x hx=>⟨(hall x hx).1,by have:=(hall x hx).2;simp at this;omega⟩
 have hres:qP xs=asB (linesL s.data.toList):=by unfold qP linesL;rw [hxs]
 have hxl:xs.length≤20001:=by
  have h1:=congrArg List.length hxs
  rw [List.length_map,xh] at h1
  omega
 rw [←hres]
 have HX:=Lib.hid hxs
 have HO:=Lib.hid ho
 have HS:Hid (s.size≤maxLen):=Lib.hid (by unfold maxLen;omega)
 have HXL:=Lib.hid hxl
 clear hall hlen hsl hxs hres ho hxl
 have h1:¬ 20000 < s.size:=by omega
 obtain ⟨i0,hi,hz0,hz1,hz2⟩:=info_parts zdD
 have HI:=Lib.hid (And.intro hi (And.intro hz0 (And.intro hz1 hz2)))
 clear hi hz0 hz1 hz2
 refine (callsIn_wide (n:=3)).1 ?_
 refine callsIn_of_wp_marks Tryz.func51 rfl trivial ?_ rfl
 simp only [Tryz.ntmps51,List.size_toArray,List.length_cons,List.length_nil,Nat.reduceAdd,Nat.reduceSub,Array.replicate_succ,Array.replicate_zero,List.push_toArray,List.append_toArray,List.nil_append,List.cons_append]
 gi_wp2_with (first
  | (refine ⟨trivial,?_⟩;gi_at_call 77;refine (callsIn_wide.2 (Kk s _ HS.out)).mono ?_;rintro e w' ⟨rfl,rfl⟩;rw [HO.out])
  | (refine ⟨trivial,?_⟩;gi_at_call 78;refine (ziy _ s _).mono ?_;rintro e w' ⟨rfl,rfl⟩))
 have bO:=Boxed.new w 117 (.slice none 0 0)
 have bN:=Boxed.new (w.alloc (.cells #[.slice none 0 0] 117)) 9 (.string s)
 rw [World.size_alloc] at bN
 have hB0:Below w.heap.size w ((w.alloc (.cells #[.slice none 0 0] 117)).alloc (.cells #[.string s] 9)):=((Below.refl _ w).alloc (Nat.le_refl _) _).alloc (by simp) _
 refine wpIn_rangeFunc_ownG rfl (by decide) (gf:=109) (lb:=#[.pointer (some ⟨w.heap.size+1,0,none⟩)]) rfl trivial (enters_of Tryz.func109 (by kernel_rfl) rfl)
  (ziA 2 (by decide) (w.heap.size+1) w.heap.size s hs xs HX.out _ (by simp) bN.cell) belowK_t (belowK_b (by simp;omega)) (Below.refl _ _) (fun _=>rfl)
  (fun pre W=>LinesI w pre W∧Below w.heap.size w W)
  (fun _ _ _=>False)
  (OwnFrom.and (Own.from (zid w) _) (ownFrom_below (Nat.le_refl _) (by simp;omega)))
  (fun _ _ _ _ _ hs _ _=>hs)
  ⟨⟨_,[],bO.alloc _,World.ownsRow_nil _ _ _ _,zP.nil _ _ _⟩,hB0⟩
  (fun x=>{ tmps:=#[.string s,undef,.slice none 0 0,.int .i64 0,.pointer (some ⟨w.heap.size,0,none⟩),.int .i64 (x.n:Int),.string (mkB x.l),undef,.string s,.int .i64 (s.size:Int),.bool (decide ((20000:Int) < (s.size:Int))),.string s,.bool true,.bool false,.string s,.func (.func 109) #[] #[.pointer (some ⟨w.heap.size+1,0,none⟩)],.int .i64 (x.n:Int),.string (mkB x.l),undef,undef,undef,undef,undef,undef,undef,undef,undef,undef,undef,undef],defers:=[] }) ?assign ?body ?done ?stop
 case assign =>
  intro l x W K hK
  simp only [encX]
  gi_wp2
  exact hK
 case body =>
  rintro l pre x W ⟨⟨v,LV,hv,hrow,hw⟩,hB⟩ hlt
  have hWd:∀ W,Calls Tryz.prog 79 #[.string (mkB x.l)] W (yq W ((wordsL x.l).map mkB)):=fun W=>by
   have:=zf7 (mkB x.l) W (by rw [Jp];have:=x.2.2.1;show x.1.2.length≤_;omega) (fun c hc=>by
    rw [qK] at hc
    have:=List.all_eq_true.1 x.2.2.2 c hc
    rw [JL] at this
    have:=of_decide_eq_true this
    omega)
   rwa [qK] at this
  have hpl:LV.length≤pre.length:=by rw [hw.1];exact zfq pre
  have hll:LV.length≤20001:=by have:=HXL.out;omega
  have HH:=zdV pre x
  have HM:=zeM pre x
  by_cases hws:wordsL x.l=[]
  ·have HE:=Lib.hid (HM hws)
   rw [hws] at hWd
   have HW:=Lib.hid hWd
   clear hWd HH HM hws hpl hll
   gi_wp2_with (refine ⟨trivial,?_⟩;gi_at_call 79;refine (CallsIn.inRound l (callsIn_wide.2 (HW.out _))).mono ?_;rintro e W1 ⟨A,rfl,hA,ho,hb⟩;simp only [List.map_nil,List.length_nil])
   exact ⟨yj _ hb,hb.mono hB.size,⟨v,LV,zG hv hb,zu hrow hb,by rw [HE.out];exact hw.mono fun u n xs hu=>zu hu hb⟩,hB.trans (hb.mono hB.size)⟩
  ·have HE:=Lib.hid (HH hws)
   have hpos:0 < ((wordsL x.l).map mkB).length:=by rw [List.length_map];exact List.length_pos_iff.2 hws
   obtain ⟨ws,hwsd⟩:∃ ws,(wordsL x.l).map mkB=ws:=⟨_,rfl⟩
   rw [hwsd] at hWd hpos HE
   have HW:=Lib.hid hWd
   clear hWd HH HM hws hpl hwsd
   gi_wp2_with (first
    | (refine ⟨trivial,?_⟩;gi_at_call 79;refine (CallsIn.inRound l (callsIn_wide.2 (HW.out _))).mono ?_;rintro e W1 ⟨A,rfl,hA,ho,hb⟩;have hv1:=zG hv hb;have hc1:=hv1.cell;have hrow1:=zu hrow hb;have hw1:Hid _:=Lib.hid (hw.mono fun u n xs hu=>zu hu hb);have hsz:w.heap.size≤W1.heap.size:=Nat.le_trans hB.size hb.size)
    | (gi_at_builtin;refine wpListIn_append_own _ rfl _ _ 117 rfl w.heap.size 124 i0 (.agg #[.int .i64 0,.slice none 0 0]) 2 32 Tryz.underlying117 HI.out.1 HI.out.2.1 HI.out.2.2.1 HI.out.2.2.2 rfl (by decide) _ _ _ rfl (hrow1.alloc _) ⟨W1.heap.size,0,none⟩ 1 1 [.int .i64 (x.n:Int),.slice (some ⟨A,0,none⟩) ws.length ws.length] rfl rfl (cell_two_new' _ _ _ _) (by intro u hu;simp at hu;rcases hu with rfl | rfl <;> rfl) (by unfold maxLen;omega) (by omega) (by simp;omega) ?_;intro v' w1 hown' hgrow _;obtain ⟨g',cap',rfl⟩:=ownsRow_succ hown';obtain ⟨hv2,hv3,hr3,hk3,hb3⟩:=hv1.appended (by decide) hrow1 hsz (Nat.le_refl _) hown' hgrow;have hc2:=hv2.cell;have hf2:=hv2.frozen))
   have hK9:∀ (u:Value) (n:Nat) (xs:List Value),W1.ownsRow w.heap.size 9 1 u n xs→(w1.setCell ⟨w.heap.size,0,none⟩ (.slice (some ⟨g',0,none⟩) (LV.length+1) cap')).ownsRow w.heap.size 9 1 u n xs:=fun u n xs hu=>by
    have hu1:=(hu.alloc (.cells #[.int .i64 (x.n:Int),.slice (some ⟨A,0,none⟩) ws.length ws.length] 124)).kept hgrow (jy hrow1 hu (by decide))
    exact hu1.kept (grownBy_setCell' w1 w.heap.size _) (.inr (hv2.not_row (by decide) hu1).symm)
   refine ⟨(yj _ hb).trans (hk3.from _),(hb.mono hB.size).trans hb3,⟨_,LV++[((x.n:Int),.slice (some ⟨A,0,none⟩) ws.length ws.length)],hv3,?_,?_⟩,hB.trans ((hb.mono hB.size).trans hb3)⟩
   ·rw [JV,List.length_append]
    exact hr3
   ·rw [HE.out]
    exact (hw1.out.mono hK9).snoc _ _ _ (hK9 _ _ _ (zw ho hB.size))
 case done =>
  rintro D ys W hD rfl ⟨⟨v,LV,hv,hrow,hw⟩,hB⟩ hK
  have hc:=hv.cell
  have hL:=Lib.hid (fun W' (h1:W'.ownsRow w.heap.size 124 2 v LV.length (flatL LV)) (h2:zP W' w.heap.size 9 LV (qP ys))=>zaf h1 h2.isIn)
  gi_wp2
  refine ⟨by simp,.inl ⟨_,_,rfl,run_takeDeferred hK,?_⟩⟩
  refine ⟨.tuple #[v,.int .i64 0],by simp [results,Tryz.results51,go_sem],v,rfl,hL.out _ (ownsRow_putObj hrow _ hK rfl) (hw.mono fun u n xs hu=>ownsRow_putObj hu _ hK rfl),hB.trans (belowK_b (w:=w) (Nat.le_refl _) W D _ _ (by simp at hD;omega) hK rfl rfl)⟩
 case stop =>
  rintro D c pre W _ _ h _
  exact h.elim
theorem zay (s:ByteArray) (w:World) (hs:s.size≤30000) :
 Calls Tryz.prog 51 #[.string s] w (x9 w (asB (linV s.data.toList)) (linE s.data.toList)):=by
 have hl:=zv s
 by_cases h:20000 < s.size
 ·obtain ⟨e1,e2⟩:=KD s.data.toList (by omega)
  rw [e1,e2]
  exact zjn s w h hs
 ·cases ho:okL s.data.toList with
  | false =>
    obtain ⟨e1,e2⟩:=Vk s.data.toList (by omega) ho
    rw [e1,e2]
    exact zgv s w (by omega) ho
  | true =>
    obtain ⟨e1,e2⟩:=XX s.data.toList (by omega) ho
    rw [e1,e2]
    exact ze7 s w (by omega) ho
end Go.Proofs.YtdhfpgjnjlcciaaGreatDoor
end
section
namespace Go.Proofs.YtdhfpgjnjlcciaaGreatDoor.Un
open Go.RowKit Go.Maps
structure jx (W0 W:World) (R m i:Nat) (l:List (List ByteArray)) (c f e k:Value) (D:DataW Unit) (M:Mast):Prop where
 rd:RdAt W W0.heap.size R m c f e k i D M
 st:zT D M
 sane:Sane M
 bel:Below W0.heap.size W0 W
 run:runM zeroM l=runM M (l.drop i)
theorem zeV (W0:World) (l:List (List ByteArray)) :
 jx W0 ((W0.alloc (.map #[] 0)).alloc (.cells (vW (.slice none 0 0) (.slice none 0 0) (.slice none 0 0) (.slice none 0 0) zeroM W0.heap.size) 138)) (W0.heap.size+1) W0.heap.size 0 l (.slice none 0 0) (.slice none 0 0) (.slice none 0 0) (.slice none 0 0) (.map []) zeroM where
 rd:=⟨by have:=heap_alloc_new (W0.alloc (.map #[] 0)) (.cells (vW (.slice none 0 0) (.slice none 0 0) (.slice none 0 0) (.slice none 0 0) zeroM W0.heap.size) 138);rw [World.size_alloc] at this;exact this,World.ownsRow_nil _ _ _ _,World.ownsRow_nil _ _ _ _,World.ownsRow_nil _ _ _ _,World.ownsRow_nil _ _ _ _,(World.ownsMap_made W0 _ _ _).alloc _,Nat.le_succ _,Nat.le_refl _⟩
 st:=zT.zero
 sane:=Sane.zero
 bel:=((Below.refl _ W0).alloc (Nat.le_refl _) _).alloc (by simp) _
 run:=rfl
theorem QG (s:ByteArray):∀ ws∈wordsT s,0 < ws.length:=fun ws h=>List.length_pos_iff.2 (Y3 s ws h).1
def zfW:Prop:=∀ (v:Value) (ws:List ByteArray) (W0 W:World) (R m n:Nat) (c f e l:Value) (D:DataW Unit) (M:Mast),StrsV W0 v ws→0 < ws.length→Laid W0→Fl.Laid W0→Below W0.heap.size W0 W→RdAt W W0.heap.size R m c f e l n D M→zT D M→Sane M→n < maxLen →
    Calls Tryz.prog 59 #[.pointer (some ⟨R,0,none⟩),v] W (xV W W0.heap.size R m (n+1) (stepV M ws) (stepE M ws))
abbrev nil4:Value:=.slice none 0 0
abbrev jg (w:World):World:=w.alloc (.cells #[.slice none 0 0,.slice none 0 0,.slice none 0 0,.slice none 0 0,.string emp,.string emp,.string emp,.string emp,.string emp] 33)
theorem Jh (w:World):BoxM (jg w) w.heap.size 33 nil4 nil4 nil4 nil4 zeroM:=heap_alloc_new w _
theorem jt:Ones nil4 nil4 nil4 nil4:=⟨rfl,rfl,rfl,rfl⟩
set_option maxRecDepth 100000 in
set_option maxHeartbeats 16000000 in
theorem zgu (hread:zfW) (s:ByteArray) (w:World) (hs:s.size≤30000) (hl:Laid w) (hlf:Fl.Laid w) :
 Calls Tryz.prog 28 #[.string s] w (Jr w (parseM s).1 (parseM s).2):=by
 have HB0:Hid (Below w.heap.size w (jg w)):=Lib.hid ((Below.refl w.heap.size w).alloc (Nat.le_refl _) _)
 have HX0:=Lib.hid (Jh w)
 have HLN:=Lib.hid (zay s (jg w) hs)
 have HLA:=Lib.hid (hl.below HB0.out (Nat.le_refl _))
 have HLF:=Lib.hid (hlf.below HB0.out (Nat.le_refl _))
 have HRE:=Lib.hid hread
 have HWP:=Lib.hid (QG s)
 have hpm:parseM s=if linE s.data.toList=0 then linesM (wordsT s) else (zeroM,linE s.data.toList):=rfl
 obtain ⟨L,hL⟩:∃ L,asB (linV s.data.toList)=L:=⟨_,rfl⟩
 have hWT:wordsT s=L.map (·.2):=by unfold wordsT;rw [hL]
 rw [hWT] at hpm HWP
 have hLL:L.length≤30001:=by
  rw [←hL,vH]
  unfold linV
  split
  ·simp
  ·split
   ·unfold linesL
    have h1:=ZU (enumL 1 (zn [] s.data.toList))
    rw [xh] at h1
    have h2:=vt [] s.data.toList
    rw [zv] at h2
    omega
   ·simp
 obtain ⟨e0,he0⟩:∃ e0,linE s.data.toList=e0:=⟨_,rfl⟩
 rw [he0] at hpm HLN
 rw [hL] at HLN
 obtain ⟨PM,hPM⟩:∃ PM,(parseM s).1=PM:=⟨_,rfl⟩
 obtain ⟨PE,hPE⟩:∃ PE,(parseM s).2=PE:=⟨_,rfl⟩
 rw [hPM,hPE]
 have HPR:Hid ((PM,PE)=if e0=0 then linesM (L.map (·.2)) else (zeroM,e0)):=Lib.hid (by rw [←hpm,←hPM,←hPE])
 clear hread hl hlf hpm hL hWT he0 hPM hPE
 go_enter Tryz.func28,Tryz.ntmps28
 go_wp2_with fail
 refine HLN.out.mono ?_
 rintro en w2 ⟨v2,rfl,hlv,hb2⟩
 have HX2:=Lib.hid (HX0.out.kept hb2)
 have HB2:=Lib.hid (HB0.out.trans (hb2.mono HB0.out.size))
 have HLA2:=Lib.hid (HLA.out.below hb2 (Nat.le_refl _))
 have HLF2:=Lib.hid (HLF.out.below hb2 (Nat.le_refl _))
 clear hb2 HX0 HB0 HLA HLF
 by_cases h0:e0=0
 ·subst h0
  have HPR2:Hid ((PM,PE)=linesM (L.map (·.2))):=Lib.hid (by rw [HPR.out,if_pos rfl])
  clear HPR
  obtain ⟨p,cp,rfl,hm,hc⟩:=hlv
  have HC:=Lib.hid hc
  obtain ⟨n,hn⟩:∃ n,L.length=n:=⟨_,rfl⟩
  rw [hn] at hLL ⊢
  have HN:=Lib.hid hn
  have HST:=Lib.hid (zeV w2 (L.map (·.2)))
  have hmm:=@run_makeMap Tryz.prog
  clear hc hn hm
  go_wp2
  clear hmm
  go_loopw [24] (fun s24 wr=>∃ i:Nat,i≤n∧s24=.int .i64 (i:Int)∧Hid (∃ c f e k D M,jx w2 wr (w2.heap.size+1) w2.heap.size i (L.map (·.2)) c f e k D M)) (fun s24 _=>n - (intOf s24).toNat)
  case atStart=>exact ⟨0,Nat.zero_le _,rfl,Lib.hid ⟨_,_,_,_,_,_,HST.out⟩⟩
  case round =>
   obtain ⟨i,hi,rfl,HPA⟩:=hrel
   obtain ⟨c,f,e,k,D,M,hpa⟩:=HPA.out
   have HP:=Lib.hid hpa
   clear hpa HPA
   by_cases hlt:i < n
   ·obtain ⟨⟨ln,ws⟩,hx⟩:∃ x,L[i]?=some x:=⟨_,List.getElem?_eq_getElem (by rw [HN.out];exact hlt)⟩
    obtain ⟨b,o,u,rfl,d0,d1,hu⟩:=HC.out i _ hx
    dsimp only at d0 d1 hu
    have hwx:(L.map (·.2))[i]?=some ws:=by rw [List.getElem?_map,hx];rfl
    have HWX:=Lib.hid hwx
    have HW0:=Lib.hid (HWP.out ws (List.mem_of_getElem? hwx))
    have HU:=Lib.hid hu
    obtain ⟨pu,cu,rfl,_⟩:=hu
    have e0:=(HP.out.bel.cell (World.block_lt_of_cell? w2 _ d0)).trans d0
    have e1:=(HP.out.bel.cell (World.block_lt_of_cell? w2 _ d1)).trans d1
    obtain ⟨nw,hnw⟩:∃ nw,ws.length=nw:=⟨_,rfl⟩
    rw [hnw] at e1 HU
    have hbx:=(Below.refl wr.heap.size wr).alloc (Nat.le_refl _) (.cells #[.int .i64 ln,.slice pu nw cu] 124)
    have HR1:=Lib.hid (HP.out.rd.below hbx)
    have HB1:=Lib.hid (HP.out.bel.trans (hbx.mono HP.out.bel.size))
    have HRC:=Lib.hid (HRE.out (.slice pu nw cu) ws w2 _ _ _ _ _ _ _ _ _ _ HU.out HW0.out HLA2.out HLF2.out HB1.out HR1.out HP.out.st HP.out.sane (by unfold maxLen;omega))
    clear hx hwx d0 d1 hnw hbx
    obtain ⟨E,hE⟩:∃ E,stepE M ws=E:=⟨_,rfl⟩
    rw [hE] at HRC
    have HE:=Lib.hid hE
    clear hE
    go_wp2_with fail
    refine HRC.out.mono ?_
    rintro en w3 ⟨rfl,hb3,hrd3⟩
    have HB3:=Lib.hid (HB1.out.trans hb3)
    have HRD3:=Lib.hid hrd3
    clear hb3 hrd3 e0 e1
    by_cases hE0:E=0
    ·subst hE0
     have HNX:Hid (∃ c f e k D M,jx w2 w3 (w2.heap.size+1) w2.heap.size (i+1) (L.map (·.2)) c f e k D M):=Lib.hid (by
      obtain ⟨c',f',e',k',D',hr,hst⟩:=HRD3.out rfl
      refine ⟨c',f',e',k',D',_,hr,hst,HP.out.sane.step HE.out,HB3.out,?_⟩
      have hdr:(L.map (·.2)).drop i=ws::(L.map (·.2)).drop (i+1):=by
       have hlt':=(List.getElem?_eq_some_iff.1 HWX.out).1
       rw [List.drop_eq_getElem_cons hlt',(List.getElem?_eq_some_iff.1 HWX.out).2]
      rw [HP.out.run,hdr,xE _ _ _ HE.out])
     go_wp2
     go_roundw
     case rel=>exact ⟨i+1,by omega,by go_num,HNX⟩
     case measure=>simp [intOf];omega
    ·have HPF:Hid (PM=zeroM∧PE=E):=Lib.hid (by
      have hdr:(L.map (·.2)).drop i=ws::(L.map (·.2)).drop (i+1):=by
       have hlt':=(List.getElem?_eq_some_iff.1 HWX.out).1
       rw [List.drop_eq_getElem_cons hlt',(List.getElem?_eq_some_iff.1 HWX.out).2]
      have h1:=HPR2.out
      unfold linesM at h1
      rw [HP.out.run,hdr,ZZ _ _ _ (by rw [HE.out];exact hE0),YA _ (by rw [HE.out];exact hE0),HE.out] at h1
      exact Prod.mk.inj h1)
     have HX3:=Lib.hid (HX2.out.keep HB3.out HX2.out.lt)
     have HBF:=Lib.hid (HB2.out.trans (HB3.out.mono HB2.out.size))
     go_wp2_with (refine zi rfl 33 (.tmp 2) (.tmp 33) rfl w.heap.size nil4 nil4 nil4 nil4 nil4 nil4 nil4 nil4 zeroM zeroM 33 rfl rfl HX3.out jt (by kernel_rfl) ?_;intro w4 hb4 hg4)
     have HBG:=Lib.hid (HBF.out.grown hg4 HBF.out.size (fun j hj=>by cases hj;exact Nat.le_refl _))
     obtain ⟨c0,c1,c2,c3,c4,c5,c6,c7,c8⟩:=hb4.nine
     have HZ:=Lib.hid (MastIn.zero w4)
     clear hb4 hg4
     refine bodyPost_ret (v:=.tuple #[aggM nil4 nil4 nil4 nil4 zeroM,.int .i64 E]) (by simp [results,Tryz.results28,go_sem,c0,c1,c2,c3,c4,c5,c6,c7,c8]) rfl ⟨_,by rw [HPF.out.2],?_,HBG.out⟩
     rw [HPF.out.1]
     exact ⟨_,_,_,_,rfl,HZ.out⟩
   ·have HRN:Hid (runM zeroM (L.map (·.2))=(M,0)):=Lib.hid (by
     rw [HP.out.run,List.drop_eq_nil_of_le (by rw [List.length_map,HN.out];omega)];rfl)
    have HPF:Hid ((PM,PE)=endM (M,0)):=Lib.hid (by rw [HPR2.out];unfold linesM;rw [HRN.out])
    have HMI:=Lib.hid HP.out.rd.mast
    have HCK:=Lib.hid (yJ c f e k M wr HMI.out (Fl.qm HP.out.sane.fl) (by have:=HP.out.sane.lf;omega))
    obtain ⟨c0,c1,c2,c3,c4,c5,c6,c7,c8⟩:=HP.out.rd.nine
    obtain ⟨A,hA⟩:∃ A,allE M=A:=⟨_,rfl⟩
    rw [hA] at HCK
    have HA:=Lib.hid hA
    clear hA
    go_wp2_with fail
    clear c0 c1 c2 c3 c4 c5 c6 c7 c8
    refine HCK.out.mono ?_
    rintro en w3 ⟨rfl,hb3⟩
    have HR3:=Lib.hid (HP.out.rd.below hb3)
    have HB3:=Lib.hid (HP.out.bel.trans (hb3.mono HP.out.bel.size))
    have HX3:=Lib.hid (HX2.out.keep HB3.out HX2.out.lt)
    have HBF:=Lib.hid (HB2.out.trans (HB3.out.mono HB2.out.size))
    clear hb3
    by_cases hA0:A=0
    ·subst hA0
     have HPG:Hid (PM=M∧PE=0):=Lib.hid (by
      have h1:=HPF.out
      rw [Zl _ HA.out] at h1
      exact Prod.mk.inj h1)
     have HM3:=Lib.hid HR3.out.mast
     obtain ⟨c0,c1,c2,c3,c4,c5,c6,c7,c8⟩:=HR3.out.nine
     go_wp2_with (refine zi rfl 33 (.tmp 2) (.tmp 44) rfl w.heap.size nil4 nil4 nil4 nil4 c f e k zeroM M 33 rfl rfl HX3.out (jJ HM3.out) (by kernel_rfl) ?_;intro w4 hb4 hg4)
     clear c0 c1 c2 c3 c4 c5 c6 c7 c8
     have HBG:=Lib.hid (HBF.out.grown hg4 HBF.out.size (fun j hj=>by cases hj;exact Nat.le_refl _))
     have HM4:Hid (MastIn w4 c f e k M):=Lib.hid (by
      have hne:∀ {B':Nat} {t':TypeId} {s' q':Nat} {v':Value} {xs':List Value},w3.ownsRow w2.heap.size t' s' v' q' xs'→v'.ownBlock=none∨v'.ownBlock≠some w.heap.size:=fun hr=>by
       rcases hr.2 with ⟨rfl,_⟩ | ⟨g',_,_,rfl,hge,_⟩
       ·exact .inl rfl
       ·refine .inr (fun e'=>?_)
        have:g'=w.heap.size:=by simpa [Value.ownBlock] using e'
        have:=HX2.out.lt
        omega
      exact ⟨xN (HR3.out.chart.kept hg4 (hne (B':=0) HR3.out.chart)),zq (HR3.out.flows.kept hg4 (hne (B':=0) HR3.out.flows)),zq (HR3.out.ents.kept hg4 (hne (B':=0) HR3.out.ents)),zq (HR3.out.lines.kept hg4 (hne (B':=0) HR3.out.lines))⟩)
     obtain ⟨c0,c1,c2,c3,c4,c5,c6,c7,c8⟩:=hb4.nine
     clear hb4 hg4
     refine bodyPost_ret (v:=.tuple #[aggM c f e k M,.int .i64 0]) (by simp [results,Tryz.results28,go_sem,c0,c1,c2,c3,c4,c5,c6,c7,c8]) rfl ⟨_,by rw [HPG.out.2],?_,HBG.out⟩
     rw [HPG.out.1]
     exact ⟨_,_,_,_,rfl,HM4.out⟩
    ·have HPG:Hid (PM=zeroM∧PE=A):=Lib.hid (by
      have h1:=HPF.out
      rw [Q0 _ (by rw [HA.out];exact hA0),HA.out] at h1
      exact Prod.mk.inj h1)
     go_wp2_with (refine zi rfl 33 (.tmp 2) (.tmp 41) rfl w.heap.size nil4 nil4 nil4 nil4 nil4 nil4 nil4 nil4 zeroM zeroM 33 rfl rfl HX3.out jt (by kernel_rfl) ?_;intro w4 hb4 hg4)
     have HBG:=Lib.hid (HBF.out.grown hg4 HBF.out.size (fun j hj=>by cases hj;exact Nat.le_refl _))
     obtain ⟨c0,c1,c2,c3,c4,c5,c6,c7,c8⟩:=hb4.nine
     have HZ:=Lib.hid (MastIn.zero w4)
     clear hb4 hg4
     refine bodyPost_ret (v:=.tuple #[aggM nil4 nil4 nil4 nil4 zeroM,.int .i64 A]) (by simp [results,Tryz.results28,go_sem,c0,c1,c2,c3,c4,c5,c6,c7,c8]) rfl ⟨_,by rw [HPG.out.2],?_,HBG.out⟩
     rw [HPG.out.1]
     exact ⟨_,_,_,_,rfl,HZ.out⟩
 ·have HPF:Hid (PM=zeroM∧PE=e0):=Lib.hid (by
   have h1:=HPR.out
   rw [if_neg h0] at h1
   exact Prod.mk.inj h1)
  obtain ⟨p,cp,rfl,_⟩:=hlv
  go_wp2_with (refine zi rfl 33 (.tmp 2) (.tmp 18) rfl w.heap.size nil4 nil4 nil4 nil4 nil4 nil4 nil4 nil4 zeroM zeroM 33 rfl rfl HX2.out jt (by kernel_rfl) ?_;intro w4 hb4 hg4)
  have HBG:=Lib.hid (HB2.out.grown hg4 HB2.out.size (fun j hj=>by cases hj;exact Nat.le_refl _))
  obtain ⟨c0,c1,c2,c3,c4,c5,c6,c7,c8⟩:=hb4.nine
  have HZ:=Lib.hid (MastIn.zero w4)
  clear hb4 hg4
  refine bodyPost_ret (v:=.tuple #[aggM nil4 nil4 nil4 nil4 zeroM,.int .i64 e0]) (by simp [results,Tryz.results28,go_sem,c0,c1,c2,c3,c4,c5,c6,c7,c8]) rfl ⟨_,by rw [HPF.out.2],?_,HBG.out⟩
  rw [HPF.out.1]
  exact ⟨_,_,_,_,rfl,HZ.out⟩
end Go.Proofs.YtdhfpgjnjlcciaaGreatDoor.Un
end
