/- Open ElsOpen CsKeyOf RateCalls RateText RateBoth RateParse Leave LexRwords LexRlines LexRjoin -/
import Derived.Deep.Fields
import Derived.Deep.SlicePairs
import Derived.Deep.Slices
import Derived.Deep.Strs
import Derived.LaidMore
import Derived.OpenShut
import Derived.ProofKit
import Derived.Stop.Joined
import Derived.Stop.LaidErr
import Derived.Test.YthcpglnmhimepaaGreatDoorS29
import Derived.Test.YthcpglnmhimepaaGreatDoorS30
section
namespace Go.Proofs.YthcpglnmhimepaaGreatDoor
open Go.ChangeShapes Go.WideShapes Go.ChangeAt Go.RowKit
theorem laidOut:laidOutB Tryz.prog=true:=by kernel_rfl
end Go.Proofs.YthcpglnmhimepaaGreatDoor
end
section
namespace Go.Proofs.YthcpglnmhimepaaGreatDoor
open Go.ChangeShapes Go.WideShapes Go.ChangeAt Go.RowKit Go.Deep
section
variable {H:Type} {enc:TypeId × Value→H} {P:Program} {W:World} {base:Nat} {sp:Nat→Bool} {held:Bool}
end
theorem cells_of_texts {H:Type} {enc:TypeId × Value→H} {P:Program} {w:World} {base:Nat} {sp:Nat→Bool} {held:Bool} {fuel:Nat} {t e:TypeId} {n:Nat} {cs:List Value} {zs:List (List UInt8)} {p:List MemPlace}
 (ht:P.underlying t=some (.array n e)) (he:P.underlying e=some .string) (hce:P.cellsOf e=1) (hct:P.cellsOf t=n)
 (h:DataW.trod enc P w base sp held fuel t cs=some (.agg (zs.map fun z=>.lit (.string z)),p)):∀ (i:Nat) z,zs[i]?=some z→cs[i]?=some (.string (mkB z)):=by
 cases fuel with
 | zero=>simp [DataW.trod] at h
 | succ fuel =>
   simp only [DataW.trod,ht,hce,hct,Nat.mul_one] at h
   split at h
   ·obtain ⟨xs,hm,hx⟩:=Option.map_eq_some_iff.1 h
    have hxs:xs.map (·.1)=zs.map fun z=>(DataW.lit (.string z):DataW H):=by simpa using congrArg Prod.fst hx
    have hxl:xs.length=n:=by simpa using Lib.mapM_length hm
    have hzl:zs.length=n:=by
     have:=congrArg List.length hxs
     simp at this
     omega
    intro i z hz
    have hi:i < n:=by rw [←hzl];exact (List.getElem?_eq_some_iff.1 hz).1
    obtain ⟨b,hb,hf⟩:=Lib.mapM_at hm i i (by simp [hi])
    obtain ⟨s,hc,rfl,_⟩:=DataW.trod_string he hf
    have h1:cs[i]?=some (.string s):=by
     have:=congrArg (·[0]?) hc
     simpa [List.getElem?_take,List.getElem?_drop] using this
    have h2:(xs.map (·.1))[i]?=some (DataW.lit (.string s.data.toList):DataW H):=by simp [hb]
    rw [hxs] at h2
    simp only [List.getElem?_map,hz,Option.map_some,Option.some.injEq,DataW.lit.injEq,Lit.string.injEq] at h2
    rw [h1,h2,mkB_list]
   ·cases h
end Go.Proofs.YthcpglnmhimepaaGreatDoor
end
section
namespace Go.Proofs.YthcpglnmhimepaaGreatDoor.Cs.Ta
open Go.RowKit Go.Proofs.YthcpglnmhimepaaGreatDoor.Un Go.Proofs.YthcpglnmhimepaaGreatDoor.Pk
def zT:Key3:=(⟨#[]⟩,⟨#[]⟩,⟨#[]⟩)
def KeyTold (w:World) (ws:List ByteArray) (F:Bool) (e:Ending) (w':World):Prop:=∃ k:Key3,e=.returned (.tuple #[aggT k,.bool F])∧(F=true→(readV ws).key=k)∧Below w.heap.size w w'
theorem form_sim {ws:List ByteArray} (h:simB (wd ws 0)=true) (hl:ws.length≠3):formC ws=false:=by
 unfold formC
 rw [decide_eq_false hl,decide_eq_false (sim_flow h)]
 simp
theorem form_flow {ws:List ByteArray} (h:wd ws 0=tFlow) (hl:ws.length≠4):formC ws=false:=by
 have hs:simB (wd ws 0)=false:=by rw [h];decide
 unfold formC
 rw [decide_eq_false hl,hs]
 simp
theorem form_no {ws:List ByteArray} (h:simB (wd ws 0)=false) (hf:wd ws 0≠tFlow):formC ws=false:=by
 unfold formC
 rw [decide_eq_false hf,h]
 simp
set_option maxRecDepth 100000 in
set_option maxHeartbeats 8000000 in
theorem keyOf_any (v:Value) (ws:List ByteArray) (w:World) (hV:StrsV w v ws) (h0:ws≠[]) (hl:ws.length≤30000) (hz:∀ s∈ws,s.size≤900000) :
 Calls Tryz.prog 48 #[v] w (KeyTold w ws (formC ws)):=by
 obtain ⟨pv,cp,rfl,_,hmx,hcl⟩:=id hV
 have HSZ:Hid (∀ s∈ws,s.size≤maxLen):=Lib.hid (fun s hs=>Nat.le_trans (hz s hs) (by decide))
 have hb1:=(Below.refl w.heap.size w).alloc (Nat.le_refl _) (.cells (encT.cs zT).toArray 83)
 have hr1:=BoxE.new encT w zT 83
 obtain ⟨W1,hW1⟩:∃ W1,w.alloc (.cells #[.string ⟨#[]⟩,.string ⟨#[]⟩,.string ⟨#[]⟩] 83)=W1:=⟨_,rfl⟩
 replace hb1:Below w.heap.size w W1:=by rw [←hW1];exact hb1
 replace hr1:BoxE encT W1 w.heap.size 83 zT:=by rw [←hW1];exact hr1
 have HB1:=Lib.hid hb1
 have HR1:=Lib.hid hr1
 obtain ⟨F,hF⟩:∃ F,formC ws=F:=⟨_,rfl⟩
 have HF:=Lib.hid hF
 rw [hF]
 obtain ⟨a,r,rfl⟩:∃ a r,ws=a::r:=by
  cases ws with
  | nil=>exact absurd rfl h0
  | cons a r=>exact ⟨a,r,rfl⟩
 obtain ⟨pb,po,e0,d0⟩:=hcl 0 _ rfl
 cases e0
 rw [Nat.add_zero] at d0
 have hlt:pb < w.heap.size:=World.block_lt_of_cell? w _ d0
 have k0:=(HB1.out.cell (p:=⟨pb,po,none⟩) hlt).trans d0
 have HC:Hid (∀ (i:Nat) s,(a::r)[i]?=some s→W1.cell? ⟨pb,po+i,none⟩=some (.string s)):=Lib.hid (fun i s hs=>by
  obtain ⟨_,_,e1,d1⟩:=hcl i s hs
  cases e1
  exact (HB1.out.cell (p:=⟨pb,po+i,none⟩) hlt).trans d1)
 have HLT:=Lib.hid hlt
 have s0:=fun q:Since w.heap.size W1=>cell_since k0 hlt q
 obtain ⟨n,hn⟩:∃ n,(a::r).length=n:=⟨_,rfl⟩
 have HN:=Lib.hid hn
 rw [hn] at hl ⊢
 have hn1:0 < n:=by rw [←hn];simp
 clear hb1 hr1 hV hz hF hcl d0 h0 hn hmx
 have wrong:F=false→(∀ k:Key3,F=true→(readV (a::r)).key=k):=fun h k hk=>by rw [h] at hk;cases hk
 have HWR:=Lib.hid wrong
 clear wrong
 by_cases hsim:simB a=true
 ·by_cases h3:n=3
  ·obtain ⟨b,c,rfl⟩:∃ b c,r=[b,c]:=by
    have:=HN.out
    match r,(show r.length=2 by simp at this;omega) with
    | [b,c],_=>exact ⟨b,c,rfl⟩
   have k1:=HC.out 1 b rfl
   have s1:=fun q:Since w.heap.size W1=>cell_since k1 hlt q
   have HK:Hid (F=true→(readV [a,b,c]).key=(a,⟨#[]⟩,b)):=Lib.hid (fun _=>by
    show (a,(if a=tFlow then b else emp),b)=_
    rw [if_neg (sim_flow hsim)];try rfl)
   have HNM:=Lib.hid (fun W=>name_any b W (HSZ.out b (by simp)))
   have hFN:nameL b.data.toList=F:=by rw [←HF.out,form3,hsim,nm_doc,Bool.true_and]
   rw [hFN] at HNM
   clear hFN k1
   rcases sim_ways hsim with q1 | ⟨q1,q2⟩ | ⟨q1,q2,q3⟩
   all_goals
    clear hsim
    go_enter Tryz.func48,Tryz.ntmps48
    go_wp2_with fail
    refine wp_region_since w.heap.size (.one [0,1,2,3,4,5,6,7,8,9] 10 (.one [] 11 (.last [12]))) (by kernel_rfl) (by kernel_rfl) (fun d _ _ _ _ h=>by cases d <;> exact h) ?_
    obtain ⟨wq,hwq⟩:∃ wq,W1.drew=wq:=⟨_,rfl⟩
    rw [hwq]
    have HD:=Lib.hid (show Below W1.heap.size W1 wq by rw [←hwq];exact ⟨rfl,rfl,rfl,Nat.le_refl _,fun _ _=>rfl⟩)
    have HDS:=Lib.hid (HD.out.mono HB1.out.size)
    clear hwq hW1
    simp only [wpPlan,pick,nth]
    repeat (go_big_quiet_step (fail))
    refine wpQuiet_nil ?_
    clear s0 s1 k0
    intro K hK
    refine alone_want (by kernel_rfl) ?_
    go_big_op
    refine (HNM.out wq).mono ?_
    rintro en w2 ⟨rfl,rfl⟩
    refine hK _ _ (since_in HDS.out) ?_
    clear hK K
    refine wpQuiet_nil ?_
    intro K hK
    refine alone_want (by kernel_rfl) ?_
    refine Fa.wp_store_whole (E:=encT) 83 (.tmp 2) (.tmp 20) rfl w.heap.size 83 zT ((a,⟨#[]⟩,b):Key3) rfl rfl (HR1.out.kept HD.out) (by kernel_rfl) ?_
    intro w3 hx3 hg3
    have HS3:=Lib.hid (HDS.out.grown hg3 (Nat.le_trans HB1.out.size HD.out.size) (fun j hj=>by cases hj;exact Nat.le_refl _))
    have HF3:=Lib.hid (HB1.out.trans HS3.out)
    refine hK _ _ (since_in HS3.out) ?_
    clear hK K hg3
    obtain ⟨j0,j1,j2⟩:=key3 hx3.at0
    simp only [Nat.zero_add] at j0 j1 j2
    clear hx3
    simp only [Act.put]
    repeat (go_big_quiet_step (fail))
    refine wpQuiet_nil ?_
    go_wp2
    exact bodyPost_ret (v:=.tuple #[aggT ((a,⟨#[]⟩,b):Key3),.bool F]) (by simp [results,Tryz.results48,go_sem,j0,j1,j2]) rfl ⟨((a,⟨#[]⟩,b):Key3),rfl,HK.out,HF3.out⟩
  ·have HFF:Hid (F=false):=Lib.hid (by rw [←HF.out];exact form_sim hsim (by rw [HN.out];exact h3))
   have hd:(decide ((n:Int)=3))=false:=by simp;omega
   clear s0
   rcases sim_ways hsim with q1 | ⟨q1,q2⟩ | ⟨q1,q2,q3⟩
   all_goals
    clear hsim
    go_enter Tryz.func48,Tryz.ntmps48
    go_wp2_with (first
     | (refine wpList_store_el (E:=encT) rfl 83 (.tmp 2) (.tmp 50) rfl w.heap.size zT zT 83 rfl rfl HR1.out (by kernel_rfl) ?_;intro w9 hb9 hg9)
     | fail)
    have HF9:=Lib.hid (HB1.out.grown hg9 HB1.out.size (fun j hj=>by cases hj;exact Nat.le_refl _))
    obtain ⟨j0,j1,j2⟩:=key3 hb9.at0
    simp only [Nat.zero_add] at j0 j1 j2
    clear hb9 hg9
    exact bodyPost_ret (v:=.tuple #[aggT zT,.bool false]) (by simp [results,Tryz.results48,go_sem,j0,j1,j2]) rfl ⟨zT,by rw [HFF.out],HWR.out HFF.out _,HF9.out⟩
 ·obtain ⟨q1,q2,q3⟩:=sim_not hsim
  by_cases hf:a=tFlow
  ·have q4:(a.toList==[102,108,111,119])=true:=by rw [←flow_list,hf];exact beq_self_eq_true _
   by_cases h4:n=4
   ·obtain ⟨b,c,d,rfl⟩:∃ b c d,r=[b,c,d]:=by
     have:=HN.out
     match r,(show r.length=3 by simp at this;omega) with
     | [b,c,d],_=>exact ⟨b,c,d,rfl⟩
    have k1:=HC.out 1 b rfl
    have k2:=HC.out 2 c rfl
    have s1:=fun q:Since w.heap.size W1=>cell_since k1 hlt q
    have s2:=fun q:Since w.heap.size W1=>cell_since k2 hlt q
    have HK:Hid (F=true→(readV [a,b,c,d]).key=(a,b,c)):=Lib.hid (fun _=>by
     show (a,(if a=tFlow then b else emp),c)=_
     rw [if_pos hf])
    have HNM:=Lib.hid (fun W=>name_any b W (HSZ.out b (by simp)))
    have HNC:=Lib.hid (fun W=>name_any c W (HSZ.out c (by simp)))
    have hFN:(nameL b.data.toList && nameL c.data.toList)=F:=by rw [←HF.out,form4,hf,nm_doc,nm_doc];simp
    obtain ⟨B1,hB1⟩:∃ B1,nameL b.data.toList=B1:=⟨_,rfl⟩
    obtain ⟨B2,hB2⟩:∃ B2,nameL c.data.toList=B2:=⟨_,rfl⟩
    rw [hB1] at HNM hFN
    rw [hB2] at HNC hFN
    have HFN:=Lib.hid hFN
    clear hFN hB1 hB2 k1 k2 hsim hf
    cases B1 with
    | false =>
      have HFF:Hid (F=false):=Lib.hid (by rw [←HFN.out];rfl)
      go_enter Tryz.func48,Tryz.ntmps48
      go_wp2_with fail
      refine wp_region_since w.heap.size (.one [0,1,2,3,4,5,6,7,8,9,10,11,12] 13 (.one [14,15,16,17] 18 (.one [19] 20 (.last [21])))) (by kernel_rfl) (by kernel_rfl) (fun d _ _ _ _ h=>by cases d <;> exact h) ?_
      obtain ⟨wq,hwq⟩:∃ wq,W1.drew=wq:=⟨_,rfl⟩
      rw [hwq]
      have HD:=Lib.hid (show Below W1.heap.size W1 wq by rw [←hwq];exact ⟨rfl,rfl,rfl,Nat.le_refl _,fun _ _=>rfl⟩)
      have HDS:=Lib.hid (HD.out.mono HB1.out.size)
      clear hwq hW1
      simp only [wpPlan,pick,nth]
      repeat (go_big_quiet_step (fail))
      refine wpQuiet_nil ?_
      intro K hK
      refine alone_want (by kernel_rfl) ?_
      go_big_op
      refine (HNM.out wq).mono ?_
      rintro en w2 ⟨rfl,rfl⟩
      refine hK _ _ (since_in HDS.out) ?_
      clear hK K
      repeat (go_big_quiet_step (fail))
      refine wpQuiet_nil ?_
      clear s0 s1 s2 k0
      intro K hK
      refine alone_skip (by kernel_rfl) ?_
      refine hK _ _ (since_in HDS.out) ?_
      clear hK K
      simp only [Act.put,List.setIfInBounds_toArray,List.set_cons_zero,List.set_cons_succ]
      repeat (go_big_quiet_step (fail))
      refine wpQuiet_nil ?_
      intro K hK
      refine alone_want (by kernel_rfl) ?_
      refine Fa.wp_store_whole (E:=encT) 83 (.tmp 2) (.tmp 39) rfl w.heap.size 83 zT ((a,b,c):Key3) rfl rfl (HR1.out.kept HD.out) (by kernel_rfl) ?_
      intro w3 hx3 hg3
      have HS3:=Lib.hid (HDS.out.grown hg3 (Nat.le_trans HB1.out.size HD.out.size) (fun j hj=>by cases hj;exact Nat.le_refl _))
      have HF3:=Lib.hid (HB1.out.trans HS3.out)
      refine hK _ _ (since_in HS3.out) ?_
      clear hK K hg3
      obtain ⟨j0,j1,j2⟩:=key3 hx3.at0
      simp only [Nat.zero_add] at j0 j1 j2
      clear hx3
      simp only [Act.put]
      repeat (go_big_quiet_step (fail))
      refine wpQuiet_nil ?_
      go_wp2
      exact bodyPost_ret (v:=.tuple #[aggT ((a,b,c):Key3),.bool false]) (by simp [results,Tryz.results48,go_sem,j0,j1,j2]) rfl ⟨((a,b,c):Key3),by rw [HFF.out],HK.out,HF3.out⟩
    | true =>
      have HFF:Hid (B2=F):=Lib.hid (by rw [←HFN.out];rfl)
      go_enter Tryz.func48,Tryz.ntmps48
      go_wp2_with fail
      refine wp_region_since w.heap.size (.one [0,1,2,3,4,5,6,7,8,9,10,11,12] 13 (.one [14,15,16,17] 18 (.one [19] 20 (.last [21])))) (by kernel_rfl) (by kernel_rfl) (fun d _ _ _ _ h=>by cases d <;> exact h) ?_
      obtain ⟨wq,hwq⟩:∃ wq,W1.drew=wq:=⟨_,rfl⟩
      rw [hwq]
      have HD:=Lib.hid (show Below W1.heap.size W1 wq by rw [←hwq];exact ⟨rfl,rfl,rfl,Nat.le_refl _,fun _ _=>rfl⟩)
      have HDS:=Lib.hid (HD.out.mono HB1.out.size)
      clear hwq hW1
      simp only [wpPlan,pick,nth]
      repeat (go_big_quiet_step (fail))
      refine wpQuiet_nil ?_
      intro K hK
      refine alone_want (by kernel_rfl) ?_
      go_big_op
      refine (HNM.out wq).mono ?_
      rintro en w2 ⟨rfl,rfl⟩
      refine hK _ _ (since_in HDS.out) ?_
      clear hK K
      repeat (go_big_quiet_step (fail))
      refine wpQuiet_nil ?_
      clear s0 s1 s2 k0
      intro K hK
      refine alone_want (by kernel_rfl) ?_
      go_big_op
      refine (HNC.out wq).mono ?_
      rintro en w2 ⟨rfl,rfl⟩
      refine hK _ _ (since_in HDS.out) ?_
      clear hK K
      repeat (go_big_quiet_step (fail))
      refine wpQuiet_nil ?_
      intro K hK
      refine alone_want (by kernel_rfl) ?_
      refine Fa.wp_store_whole (E:=encT) 83 (.tmp 2) (.tmp 39) rfl w.heap.size 83 zT ((a,b,c):Key3) rfl rfl (HR1.out.kept HD.out) (by kernel_rfl) ?_
      intro w3 hx3 hg3
      have HS3:=Lib.hid (HDS.out.grown hg3 (Nat.le_trans HB1.out.size HD.out.size) (fun j hj=>by cases hj;exact Nat.le_refl _))
      have HF3:=Lib.hid (HB1.out.trans HS3.out)
      refine hK _ _ (since_in HS3.out) ?_
      clear hK K hg3
      obtain ⟨j0,j1,j2⟩:=key3 hx3.at0
      simp only [Nat.zero_add] at j0 j1 j2
      clear hx3
      simp only [Act.put]
      repeat (go_big_quiet_step (fail))
      refine wpQuiet_nil ?_
      go_wp2
      exact bodyPost_ret (v:=.tuple #[aggT ((a,b,c):Key3),.bool B2]) (by simp [results,Tryz.results48,go_sem,j0,j1,j2]) rfl ⟨((a,b,c):Key3),by rw [HFF.out],HK.out,HF3.out⟩
   ·have HFF:Hid (F=false):=Lib.hid (by rw [←HF.out];exact form_flow hf (by rw [HN.out];exact h4))
    have hd:(decide ((n:Int)=4))=false:=by simp;omega
    clear s0 hsim hf
    go_enter Tryz.func48,Tryz.ntmps48
    go_wp2_with (first
     | (refine wpList_store_el (E:=encT) rfl 83 (.tmp 2) (.tmp 50) rfl w.heap.size zT zT 83 rfl rfl HR1.out (by kernel_rfl) ?_;intro w9 hb9 hg9)
     | fail)
    have HF9:=Lib.hid (HB1.out.grown hg9 HB1.out.size (fun j hj=>by cases hj;exact Nat.le_refl _))
    obtain ⟨j0,j1,j2⟩:=key3 hb9.at0
    simp only [Nat.zero_add] at j0 j1 j2
    clear hb9 hg9
    exact bodyPost_ret (v:=.tuple #[aggT zT,.bool false]) (by simp [results,Tryz.results48,go_sem,j0,j1,j2]) rfl ⟨zT,by rw [HFF.out],HWR.out HFF.out _,HF9.out⟩
  ·have q4:(a.toList==[102,108,111,119])=false:=by rw [←flow_list];exact (Lib.bytes_beq_false_iff a tFlow).2 hf
   have HFF:Hid (F=false):=Lib.hid (by rw [←HF.out];exact form_no (show simB a=false by simpa using hsim) hf)
   clear s0 hsim hf
   go_enter Tryz.func48,Tryz.ntmps48
   go_wp2_with (first
    | (refine wpList_store_el (E:=encT) rfl 83 (.tmp 2) (.tmp 50) rfl w.heap.size zT zT 83 rfl rfl HR1.out (by kernel_rfl) ?_;intro w9 hb9 hg9)
    | fail)
   have HF9:=Lib.hid (HB1.out.grown hg9 HB1.out.size (fun j hj=>by cases hj;exact Nat.le_refl _))
   obtain ⟨j0,j1,j2⟩:=key3 hb9.at0
   simp only [Nat.zero_add] at j0 j1 j2
   clear hb9 hg9
   exact bodyPost_ret (v:=.tuple #[aggT zT,.bool false]) (by simp [results,Tryz.results48,go_sem,j0,j1,j2]) rfl ⟨zT,by rw [HFF.out],HWR.out HFF.out _,HF9.out⟩
end Go.Proofs.YthcpglnmhimepaaGreatDoor.Cs.Ta
end
section
namespace Go.Proofs.YthcpglnmhimepaaGreatDoor.Ra
open Go.RowKit
set_option maxHeartbeats 400000 in
theorem make_arg (n d:Int) (w:World) (h:n < 1∨d < 1) :
 Calls Tryz.prog 89 #[.int .i64 n,.int .i64 d] w fun e w'=>e=.returned (.tuple #[.agg #[.int .i64 0,.int .i64 0],.int .i64 1])∧Below w.heap.size w w':=by
 by_cases h1:n < 1
 ·have hd:decide (n < 1)=true:=by simpa using h1
  go_enter Tryz.func89,Tryz.ntmps89
  go_wp2
  exact bodyPost_ret (v:=.tuple #[.agg #[.int .i64 0,.int .i64 0],.int .i64 1]) (by simp [results,Tryz.results89,go_sem]) rfl ⟨rfl,(Below.refl _ _).alloc (Nat.le_refl _) _⟩
 ·have hd:decide (n < 1)=false:=by simpa using h1
  have h2:d < 1:=by omega
  clear h
  go_enter Tryz.func89,Tryz.ntmps89
  go_wp2
  exact bodyPost_ret (v:=.tuple #[.agg #[.int .i64 0,.int .i64 0],.int .i64 1]) (by simp [results,Tryz.results89,go_sem]) rfl ⟨rfl,(Below.refl _ _).alloc (Nat.le_refl _) _⟩
set_option maxHeartbeats 1000000 in
theorem make_quot (n d:Int) (w:World) (hn:In64 n) (hd:In64 d) (h:¬ (n < 1∨d < 1)) :
 Calls Tryz.prog 89 #[.int .i64 n,.int .i64 d] w fun e w'=>e=.returned (.tuple #[.agg #[.int .i64 (mkN n d),.int .i64 (mkD n d)],.int .i64 (mkE n d)])∧Below w.heap.size w w':=by
 have h1:1≤n:=by omega
 have h2:1≤d:=by omega
 have g1:=gcdI_pos (d:=d) h1
 have g2:=gcdI_le (d:=d) h1
 obtain ⟨_,hn2⟩:=hn
 obtain ⟨_,hd2⟩:=hd
 have q1:0≤n / gcdI n d∧n / gcdI n d≤n:=⟨Int.ediv_nonneg (by omega) (by omega),Int.ediv_le_self _ (by omega)⟩
 have q2:0≤d / gcdI n d∧d / gcdI n d≤d:=⟨Int.ediv_nonneg (by omega) (by omega),Int.ediv_le_self _ (by omega)⟩
 have HN:=Lib.hid (show In64 n from ⟨by omega,hn2⟩)
 have HD:=Lib.hid (show In64 d from ⟨by omega,hd2⟩)
 have HE:Hid (((Nat.gcd n.natAbs d.natAbs:Nat):Int)=gcdI n d):=Lib.hid rfl
 have h0:gcdI n d≠0:=by omega
 have d1:decide (n < 1)=false:=by simp;omega
 have d2:decide (d < 1)=false:=by simp;omega
 obtain ⟨x,hx⟩:∃ x,n / gcdI n d=x:=⟨_,rfl⟩
 obtain ⟨y,hy⟩:∃ y,d / gcdI n d=y:=⟨_,rfl⟩
 have HX:=Lib.hid hx
 have HY:=Lib.hid hy
 rw [hx] at q1
 rw [hy] at q2
 clear hx hy
 obtain ⟨x1,x2⟩:=q1
 obtain ⟨y1,y2⟩:=q2
 have HK:Hid ((if 1000000000 < x∨1000000000 < y then (4:Int) else 0)=mkE n d):=Lib.hid (by unfold mkE;rw [if_neg h,HX.out,HY.out])
 have HNN:Hid (mkN n d=if mkE n d=0 then x else 0):=Lib.hid (by unfold mkN;rw [HX.out])
 have HDD:Hid (mkD n d=if mkE n d=0 then y else 0):=Lib.hid (by unfold mkD;rw [HY.out])
 generalize mkE n d=E at *
 generalize mkN n d=N at *
 generalize mkD n d=D at *
 generalize hg:gcdI n d=g at *
 clear hg
 go_enter Tryz.func89,Tryz.ntmps89
 go_wp2_with fail
 refine (gcd_any n d _ HN.out HD.out).mono ?_
 rintro e w1 ⟨rfl,hb1⟩
 have V0:=(RateVar.mk w 0 0 53).keep hb1 (Nat.le_refl _)
 have V1:=V0.keep ((Below.refl w1.heap.size w1).alloc (Nat.le_refl _) (.cells #[.int .i64 x,.int .i64 y] 53)) (Nat.le_refl _)
 obtain ⟨⟨c0,c1⟩,f0,f1⟩:=V1
 clear V0
 have HB1:=Lib.hid (((Below.refl w.heap.size w).alloc (Nat.le_refl _) _).trans (hb1.mono (by simp)))
 clear hb1
 rw [HE.out]
 go_wp2
 have hx:=HX.out
 have hy:=HY.out
 have hx':n.tdiv g=x:=by rw [Int.tdiv_eq_ediv_of_nonneg (by omega)];exact hx
 have hy':d.tdiv g=y:=by rw [Int.tdiv_eq_ediv_of_nonneg (by omega)];exact hy
 have wx:=IntWalk.i64_in x ⟨by omega,by omega⟩
 have wy:=IntWalk.i64_in y ⟨by omega,by omega⟩
 go_region
 clear hx hy hx' hy' wx wy
 by_cases k1:1000000000 < x
 ·have e1:E=4:=by rw [←HK.out,if_pos (.inl k1)]
  have e2:N=0:=by rw [HNN.out,if_neg (by rw [e1];decide)]
  have e3:D=0:=by rw [HDD.out,if_neg (by rw [e1];decide)]
  subst e1 e2 e3
  go_wp2
  exact bodyPost_ret (v:=.tuple #[.agg #[.int .i64 0,.int .i64 0],.int .i64 4]) (by simp [results,Tryz.results89,go_sem,c0,c1]) rfl ⟨rfl,(((HB1.out.alloc HB1.out.size _).setCell (Nat.le_refl _) _).setCell (Nat.le_refl _) _).drew⟩
 ·by_cases k2:1000000000 < y
  ·have e1:E=4:=by rw [←HK.out,if_pos (.inr k2)]
   have e2:N=0:=by rw [HNN.out,if_neg (by rw [e1];decide)]
   have e3:D=0:=by rw [HDD.out,if_neg (by rw [e1];decide)]
   subst e1 e2 e3
   go_wp2
   exact bodyPost_ret (v:=.tuple #[.agg #[.int .i64 0,.int .i64 0],.int .i64 4]) (by simp [results,Tryz.results89,go_sem,c0,c1]) rfl ⟨rfl,(((HB1.out.alloc HB1.out.size _).setCell (Nat.le_refl _) _).setCell (Nat.le_refl _) _).drew⟩
  ·have e1:E=0:=by rw [←HK.out,if_neg (by omega)]
   have e2:N=x:=by rw [HNN.out,if_pos e1]
   have e3:D=y:=by rw [HDD.out,if_pos e1]
   subst e1 e2 e3
   go_wp2
   exact bodyPost_ret (v:=.tuple #[.agg #[.int .i64 N,.int .i64 D],.int .i64 0]) (by simp [results,Tryz.results89,go_sem,c0,c1]) rfl ⟨rfl,(((HB1.out.alloc HB1.out.size _).setCell (Nat.le_refl _) _).setCell (Nat.le_refl _) _).drew⟩
theorem make_any (n d:Int) (w:World) (hn:In64 n) (hd:In64 d) :
 Calls Tryz.prog 89 #[.int .i64 n,.int .i64 d] w fun e w'=>e=.returned (.tuple #[.agg #[.int .i64 (mkN n d),.int .i64 (mkD n d)],.int .i64 (mkE n d)])∧Below w.heap.size w w':=by
 by_cases h:n < 1∨d < 1
 ·have e1:=mkE_arg h
  obtain ⟨e2,e3⟩:=mk_none (n:=n) (d:=d) (by rw [e1];decide)
  rw [e1,e2,e3]
  exact make_arg n d w h
 ·exact make_quot n d w hn hd h
end Go.Proofs.YthcpglnmhimepaaGreatDoor.Ra
end
section
namespace Go.Proofs.YthcpglnmhimepaaGreatDoor.Ra
open Go.RowKit
theorem cut_cases (l:List UInt8):(Lib.indexByte l 47=-1∧ahead l=l∧behind l=[49])∨∃ i:Nat,Lib.indexByte l 47=(i:Int)∧i < l.length∧ahead l=l.take i∧behind l=l.drop (i+1):=by
 induction l with
 | nil=>exact .inl ⟨rfl,rfl,rfl⟩
 | cons c r ih =>
   by_cases h:c=47
   ·subst h
    exact .inr ⟨0,rfl,by simp,rfl,rfl⟩
   ·have hb:(c==47)=false:=by simpa using h
    rcases ih with ⟨h1,h2,h3⟩ | ⟨i,h1,h2,h3,h4⟩
    ·exact .inl ⟨by simp [Lib.indexByte,hb,h1],by simp [ahead,h,h2],by simp [behind,h,h3]⟩
    ·refine .inr ⟨i+1,?_,by simpa using h2,by simp [ahead,h,h3],by simp [behind,h,h4]⟩
     simp [Lib.indexByte,hb,h1]
theorem piece_ahead (s:ByteArray) (i:Nat):s.extract 0 i=⟨(s.data.toList.take i).toArray⟩:=by
 apply ByteArray.ext
 apply Array.ext'
 rw [ByteArray.data_extract,Array.toList_extract]
 simp
theorem piece_behind (s:ByteArray) (i:Nat):s.extract i s.size=⟨(s.data.toList.drop i).toArray⟩:=by
 apply ByteArray.ext
 apply Array.ext'
 exact Lib.extract_to_end s i
set_option maxHeartbeats 400000 in
theorem liteCut_miss (s:ByteArray) (w:World) (h:Lib.indexByte s.data.toList 47=-1) :
 Calls Tryz.prog 123 #[.string s,.string ⟨#[47]⟩] w fun e w'=>e=.returned (.tuple #[.string s,.string ⟨#[]⟩,.bool false])∧w=w':=by
 have H:=Lib.hid h
 clear h
 go_enter Tryz.func123,Tryz.ntmps123
 go_wp2_with fail
 refine (Tryz.stringslite_Index_one s 47 _).mono ?_
 rintro e w' ⟨rfl,rfl⟩
 rw [H.out]
 go_wp2
 go_ret3
 exact ⟨rfl,rfl⟩
set_option maxHeartbeats 400000 in
theorem liteCut_hit (s:ByteArray) (i:Nat) (w:World) (h:Lib.indexByte s.data.toList 47=(i:Int)) (hi:i < s.size) (hs:s.size≤maxLen) :
 Calls Tryz.prog 123 #[.string s,.string ⟨#[47]⟩] w fun e w'=>e=.returned (.tuple #[.string (s.extract 0 i),.string (s.extract (i+1) s.size),.bool true])∧∃ n,w'=w.drewN n:=by
 have H:=Lib.hid h
 clear h
 unfold maxLen at hs
 have c1:(0:Int)≤↑i:=by omega
 have c2:(↑i:Int)≤↑s.size:=by omega
 have c3:(0:Int)≤↑i+1:=by omega
 have c4:(↑i+1:Int)≤↑s.size:=by omega
 have c5:IntKind.i64.wrap (↑i+1)=↑i+1:=IntWalk.i64_in _ (by omega)
 have c6:((↑i:Int)+1).toNat=i+1:=by omega
 go_enter Tryz.func123,Tryz.ntmps123
 go_wp2_with fail
 refine (Tryz.stringslite_Index_one s 47 _).mono ?_
 rintro e w' ⟨rfl,rfl⟩
 rw [H.out]
 go_wp2
 go_region
 go_wp2
 go_ret3
 exact ⟨rfl,1,rfl⟩
set_option maxHeartbeats 400000 in
theorem cut_miss (s:ByteArray) (w:World) (h:Lib.indexByte s.data.toList 47=-1) :
 Calls Tryz.prog 83 #[.string s,.string ⟨#[47]⟩] w fun e w'=>e=.returned (.tuple #[.string s,.string ⟨#[]⟩,.bool false])∧w=w':=by
 have H:=Lib.hid h
 clear h
 go_enter Tryz.func83,Tryz.ntmps83
 go_wp2_with fail
 refine (liteCut_miss s _ H.out).mono ?_
 rintro e w' ⟨rfl,rfl⟩
 go_wp2
 go_ret3
 exact ⟨rfl,rfl⟩
set_option maxHeartbeats 400000 in
theorem cut_hit (s:ByteArray) (i:Nat) (w:World) (h:Lib.indexByte s.data.toList 47=(i:Int)) (hi:i < s.size) (hs:s.size≤maxLen) :
 Calls Tryz.prog 83 #[.string s,.string ⟨#[47]⟩] w fun e w'=>e=.returned (.tuple #[.string (s.extract 0 i),.string (s.extract (i+1) s.size),.bool true])∧∃ n,w'=w.drewN n:=by
 have H:=Lib.hid h
 have HI:=Lib.hid hi
 have HS:=Lib.hid hs
 clear h hi hs
 go_enter Tryz.func83,Tryz.ntmps83
 go_wp2_with fail
 refine (liteCut_hit s i _ H.out HI.out HS.out).mono ?_
 rintro e w' ⟨rfl,n,rfl⟩
 go_wp2
 go_ret3
 exact ⟨rfl,n,rfl⟩
set_option maxHeartbeats 400000 in
theorem halves_any (s:ByteArray) (w:World) (hs:s.size≤maxLen) :
 Calls Tryz.prog 88 #[.string s] w fun e w'=>e=.returned (.agg #[.string ⟨(ahead s.data.toList).toArray⟩,.string ⟨(behind s.data.toList).toArray⟩])∧Below w.heap.size w w':=by
 rcases cut_cases s.data.toList with ⟨h1,h2,h3⟩ | ⟨i,h1,h2,h3,h4⟩
 ·rw [h2,h3,show (ByteArray.mk s.data.toList.toArray)=s by simp]
  have H:=Lib.hid h1
  clear h1 h2 h3
  go_enter Tryz.func88,Tryz.ntmps88
  go_wp2_with fail
  refine (cut_miss s _ H.out).mono ?_
  rintro e w' ⟨rfl,rfl⟩
  go_wp2
  exact bodyPost_ret (v:=.agg #[.string s,.string ⟨#[49]⟩]) (by simp [results,Tryz.results88,go_sem]) rfl ⟨rfl,(Below.refl _ _).alloc (Nat.le_refl _) _⟩
 ·rw [h3,h4,←piece_ahead,←piece_behind]
  have H:=Lib.hid h1
  have HI:Hid (i < s.size):=Lib.hid (by simpa using h2)
  have HS:=Lib.hid hs
  clear h1 h2 h3 h4 hs
  obtain ⟨u,hu⟩:∃ u,s.extract 0 i=u:=⟨_,rfl⟩
  obtain ⟨v,hv⟩:∃ v,s.extract (i+1) s.size=v:=⟨_,rfl⟩
  rw [hu,hv]
  have HU:=Lib.hid (And.intro hu hv)
  clear hu hv
  go_enter Tryz.func88,Tryz.ntmps88
  go_wp2_with fail
  refine (cut_hit s i _ H.out HI.out HS.out).mono ?_
  rintro e w' ⟨rfl,n,rfl⟩
  rw [HU.out.1,HU.out.2]
  go_wp2
  refine bodyPost_ret (v:=.agg #[.string u,.string v]) (by simp [results,Tryz.results88,go_sem]) rfl ⟨rfl,?_⟩
  exact ((below_drewN ((Below.refl _ _).alloc (Nat.le_refl _) _) _).setCell (Nat.le_refl _) _).setCell (Nat.le_refl _) _
def bothE (e f:Int):Int:=if e=5∨f=5 then 5 else if e≠0∨f≠0 then 4 else 0
theorem parseE_cases (l:List UInt8):parseE l=0∨parseE l=2∨parseE l=5:=by
 unfold parseE;split
 ·split
  ·exact .inl rfl
  ·exact .inr (.inl rfl)
 ·exact .inr (.inr rfl)
set_option maxRecDepth 100000 in
set_option maxHeartbeats 1000000 in
theorem parseBoth_first (s t:ByteArray) (w:World) (hs:s.size≤900000) (hL:LaidC w) (h:parseE s.data.toList=5) :
 Calls Tryz.prog 87 #[.agg #[.string s,.string t]] w fun e w'=>e=.returned (.tuple #[.agg #[.int .i64 0,.int .i64 0],.int .i64 5])∧Below w.heap.size w w':=by
 have H:=Lib.hid h
 have HS:=Lib.hid hs
 have HL:=Lib.hid hL
 clear h hs hL
 have i0:∀ w,(Instr.index 51 (.agg #[.string s,.string t]) (.int .i64 0)).run Tryz.prog w=.ok (.string s) w:=fun _=>by kernel_rfl
 have i1:∀ w,(Instr.index 51 (.agg #[.string s,.string t]) (.int .i64 1)).run Tryz.prog w=.ok (.string t) w:=fun _=>by kernel_rfl
 obtain ⟨W,hW⟩:∃ W,((w.alloc (Obj.cells #[Value.string s,Value.string t] 51)).alloc (Obj.cells #[Value.int IntKind.i64 0,Value.int IntKind.i64 0] 177)).alloc (Obj.cells #[Value.int IntKind.i64 0,Value.int IntKind.i64 0] 177)=W:=⟨_,rfl⟩
 have BW:Hid (Below w.heap.size w W):=Lib.hid (by rw [←hW];exact (((Below.refl _ _).alloc (Nat.le_refl _) _).alloc (by simp) _).alloc (by simp;omega) _)
 have LW:Hid (LaidC W):=Lib.hid (HL.out.below BW.out)
 have V2:Hid (RateVar W (w.heap.size+1) 0 0):=Lib.hid (by
  have:=(RateVar.mk (w.alloc (Obj.cells #[Value.string s,Value.string t] 51)) 0 0 177).keep ((Below.refl _ _).alloc (Nat.le_refl _) (Obj.cells #[Value.int IntKind.i64 0,Value.int IntKind.i64 0] 177)) (Nat.le_refl _)
  rw [hW] at this
  simpa using this)
 have V4:Hid (RateVar W (w.heap.size+1+1) 0 0):=Lib.hid (by
  have:=RateVar.mk ((w.alloc (Obj.cells #[Value.string s,Value.string t] 51)).alloc (Obj.cells #[Value.int IntKind.i64 0,Value.int IntKind.i64 0] 177)) 0 0 177
  rw [hW] at this
  simpa using this)
 subst hW
 go_enter Tryz.func87,Tryz.ntmps87
 go_wp2
 refine wp_loop_rounds 3 ?_
 rw [rounds_succ]
 go_wp2_with fail
 refine (cnum_long s _ (Nat.le_trans HS.out (by decide)) LW.out).mono ?_
 rintro e w1 ⟨rfl,hb1⟩
 have HB1:=Lib.hid (BW.out.trans (hb1.mono BW.out.size))
 have U2:=Lib.hid (V2.out.keep hb1 (Nat.le_refl _))
 clear hb1
 rw [H.out]
 obtain ⟨⟨c0,c1⟩,f0,f1⟩:=U2.out
 go_wp2
 exact bodyPost_ret (v:=.tuple #[.agg #[.int .i64 0,.int .i64 0],.int .i64 5]) (by simp [results,Tryz.results87,go_sem,c0,c1]) rfl ⟨rfl,(HB1.out.setCell (by simp) _).setCell (by simp) _⟩
end Go.Proofs.YthcpglnmhimepaaGreatDoor.Ra
end
section
namespace Go.Proofs.YthcpglnmhimepaaGreatDoor.Ra
open Go.RowKit
set_option maxRecDepth 100000 in
set_option maxHeartbeats 1000000 in
theorem parseBoth_00 (s t:ByteArray) (p q:Int) (w:World) (hs:s.size≤900000) (ht:t.size≤900000) (hL:LaidC w) (h1:parseE s.data.toList=0) (h2:parseE t.data.toList=0) (h3:parseV s.data.toList=p) (h4:parseV t.data.toList=q) :
 Calls Tryz.prog 87 #[.agg #[.string s,.string t]] w fun e w'=>e=.returned (.tuple #[.agg #[.int .i64 p,.int .i64 q],.int .i64 0])∧Below w.heap.size w w':=by
 have H:=Lib.hid (And.intro h1 h3)
 have K:=Lib.hid (And.intro h2 h4)
 have HS:=Lib.hid hs
 have HT:=Lib.hid ht
 have HL:=Lib.hid hL
 clear h1 h2 h3 h4 hs ht hL
 have i0:∀ w,(Instr.index 51 (.agg #[.string s,.string t]) (.int .i64 0)).run Tryz.prog w=.ok (.string s) w:=fun _=>by kernel_rfl
 have i1:∀ w,(Instr.index 51 (.agg #[.string s,.string t]) (.int .i64 1)).run Tryz.prog w=.ok (.string t) w:=fun _=>by kernel_rfl
 obtain ⟨W,hW⟩:∃ W,((w.alloc (Obj.cells #[Value.string s,Value.string t] 51)).alloc (Obj.cells #[Value.int IntKind.i64 0,Value.int IntKind.i64 0] 177)).alloc (Obj.cells #[Value.int IntKind.i64 0,Value.int IntKind.i64 0] 177)=W:=⟨_,rfl⟩
 have BW:Hid (Below w.heap.size w W):=Lib.hid (by rw [←hW];exact (((Below.refl _ _).alloc (Nat.le_refl _) _).alloc (by simp) _).alloc (by simp;omega) _)
 have LW:Hid (LaidC W):=Lib.hid (HL.out.below BW.out)
 have V2:Hid (RateVar W (w.heap.size+1) 0 0):=Lib.hid (by
  have:=(RateVar.mk (w.alloc (Obj.cells #[Value.string s,Value.string t] 51)) 0 0 177).keep ((Below.refl _ _).alloc (Nat.le_refl _) (Obj.cells #[Value.int IntKind.i64 0,Value.int IntKind.i64 0] 177)) (Nat.le_refl _)
  rw [hW] at this
  simpa using this)
 have V4:Hid (RateVar W (w.heap.size+1+1) 0 0):=Lib.hid (by
  have:=RateVar.mk ((w.alloc (Obj.cells #[Value.string s,Value.string t] 51)).alloc (Obj.cells #[Value.int IntKind.i64 0,Value.int IntKind.i64 0] 177)) 0 0 177
  rw [hW] at this
  simpa using this)
 subst hW
 go_enter Tryz.func87,Tryz.ntmps87
 go_wp2
 refine wp_loop_rounds 3 ?_
 rw [rounds_succ]
 go_wp2_with fail
 refine (cnum_long s _ (Nat.le_trans HS.out (by decide)) LW.out).mono ?_
 rintro e w1 ⟨rfl,hb1⟩
 have HB1:=Lib.hid (BW.out.trans (hb1.mono BW.out.size))
 have U2:=Lib.hid (V2.out.keep hb1 (Nat.le_refl _))
 have U4:=Lib.hid (V4.out.keep hb1 (Nat.le_refl _))
 clear hb1 V2 V4 BW LW
 rw [H.out.1,H.out.2]
 obtain ⟨⟨d0,d1⟩,e0,e1⟩:=U4.out
 go_wp2
 rw [rounds_succ]
 go_wp2_with fail
 clear d0 d1 e0 e1
 have HB2:=Lib.hid (HB1.out.setCell (p:=⟨w.heap.size+1+1,0,none⟩) (by simp;omega) (.int .i64 p))
 have T2:=Lib.hid (U2.out.other (g':=w.heap.size+1+1) (o:=0) (.int .i64 p) (by omega))
 have T4:=Lib.hid (U4.out.set0 p)
 refine (cnum_long t _ (Nat.le_trans HT.out (by decide)) (HL.out.below HB2.out)).mono ?_
 rintro e w2 ⟨rfl,hb2⟩
 have HB3:=Lib.hid (HB2.out.trans (hb2.mono HB2.out.size))
 have S2:=Lib.hid (T2.out.keep hb2 (Nat.le_refl _))
 have S4:=Lib.hid (T4.out.keep hb2 (Nat.le_refl _))
 clear hb2 T2 T4 U2 U4
 rw [K.out.1,K.out.2]
 obtain ⟨⟨c0,c1⟩,f0,f1⟩:=S2.out
 obtain ⟨⟨d0,d1⟩,e0,e1⟩:=S4.out
 go_wp2
 rw [rounds_succ]
 go_wp2
 exact bodyPost_ret (v:=.tuple #[.agg #[.int .i64 p,.int .i64 q],.int .i64 0]) (by simp [results,Tryz.results87,go_sem,c0,c1]) rfl ⟨rfl,((HB3.out.setCell (by simp;omega) _).setCell (by simp) _).setCell (by simp) _⟩
set_option maxRecDepth 100000 in
set_option maxHeartbeats 1000000 in
theorem parseBoth_02 (s t:ByteArray) (p q:Int) (w:World) (hs:s.size≤900000) (ht:t.size≤900000) (hL:LaidC w) (h1:parseE s.data.toList=0) (h2:parseE t.data.toList=2) (h3:parseV s.data.toList=p) (h4:parseV t.data.toList=q) :
 Calls Tryz.prog 87 #[.agg #[.string s,.string t]] w fun e w'=>e=.returned (.tuple #[.agg #[.int .i64 0,.int .i64 0],.int .i64 4])∧Below w.heap.size w w':=by
 have H:=Lib.hid (And.intro h1 h3)
 have K:=Lib.hid (And.intro h2 h4)
 have HS:=Lib.hid hs
 have HT:=Lib.hid ht
 have HL:=Lib.hid hL
 clear h1 h2 h3 h4 hs ht hL
 have i0:∀ w,(Instr.index 51 (.agg #[.string s,.string t]) (.int .i64 0)).run Tryz.prog w=.ok (.string s) w:=fun _=>by kernel_rfl
 have i1:∀ w,(Instr.index 51 (.agg #[.string s,.string t]) (.int .i64 1)).run Tryz.prog w=.ok (.string t) w:=fun _=>by kernel_rfl
 obtain ⟨W,hW⟩:∃ W,((w.alloc (Obj.cells #[Value.string s,Value.string t] 51)).alloc (Obj.cells #[Value.int IntKind.i64 0,Value.int IntKind.i64 0] 177)).alloc (Obj.cells #[Value.int IntKind.i64 0,Value.int IntKind.i64 0] 177)=W:=⟨_,rfl⟩
 have BW:Hid (Below w.heap.size w W):=Lib.hid (by rw [←hW];exact (((Below.refl _ _).alloc (Nat.le_refl _) _).alloc (by simp) _).alloc (by simp;omega) _)
 have LW:Hid (LaidC W):=Lib.hid (HL.out.below BW.out)
 have V2:Hid (RateVar W (w.heap.size+1) 0 0):=Lib.hid (by
  have:=(RateVar.mk (w.alloc (Obj.cells #[Value.string s,Value.string t] 51)) 0 0 177).keep ((Below.refl _ _).alloc (Nat.le_refl _) (Obj.cells #[Value.int IntKind.i64 0,Value.int IntKind.i64 0] 177)) (Nat.le_refl _)
  rw [hW] at this
  simpa using this)
 have V4:Hid (RateVar W (w.heap.size+1+1) 0 0):=Lib.hid (by
  have:=RateVar.mk ((w.alloc (Obj.cells #[Value.string s,Value.string t] 51)).alloc (Obj.cells #[Value.int IntKind.i64 0,Value.int IntKind.i64 0] 177)) 0 0 177
  rw [hW] at this
  simpa using this)
 subst hW
 go_enter Tryz.func87,Tryz.ntmps87
 go_wp2
 refine wp_loop_rounds 3 ?_
 rw [rounds_succ]
 go_wp2_with fail
 refine (cnum_long s _ (Nat.le_trans HS.out (by decide)) LW.out).mono ?_
 rintro e w1 ⟨rfl,hb1⟩
 have HB1:=Lib.hid (BW.out.trans (hb1.mono BW.out.size))
 have U2:=Lib.hid (V2.out.keep hb1 (Nat.le_refl _))
 have U4:=Lib.hid (V4.out.keep hb1 (Nat.le_refl _))
 clear hb1 V2 V4 BW LW
 rw [H.out.1,H.out.2]
 obtain ⟨⟨d0,d1⟩,e0,e1⟩:=U4.out
 go_wp2
 rw [rounds_succ]
 go_wp2_with fail
 clear d0 d1 e0 e1
 have HB2:=Lib.hid (HB1.out.setCell (p:=⟨w.heap.size+1+1,0,none⟩) (by simp;omega) (.int .i64 p))
 have T2:=Lib.hid (U2.out.other (g':=w.heap.size+1+1) (o:=0) (.int .i64 p) (by omega))
 have T4:=Lib.hid (U4.out.set0 p)
 refine (cnum_long t _ (Nat.le_trans HT.out (by decide)) (HL.out.below HB2.out)).mono ?_
 rintro e w2 ⟨rfl,hb2⟩
 have HB3:=Lib.hid (HB2.out.trans (hb2.mono HB2.out.size))
 have S2:=Lib.hid (T2.out.keep hb2 (Nat.le_refl _))
 have S4:=Lib.hid (T4.out.keep hb2 (Nat.le_refl _))
 clear hb2 T2 T4 U2 U4
 rw [K.out.1,K.out.2]
 obtain ⟨⟨c0,c1⟩,f0,f1⟩:=S2.out
 obtain ⟨⟨d0,d1⟩,e0,e1⟩:=S4.out
 go_wp2
 rw [rounds_succ]
 go_wp2
 exact bodyPost_ret (v:=.tuple #[.agg #[.int .i64 0,.int .i64 0],.int .i64 4]) (by simp [results,Tryz.results87,go_sem,c0,c1]) rfl ⟨rfl,((HB3.out.setCell (by simp;omega) _).setCell (by simp) _).setCell (by simp) _⟩
set_option maxRecDepth 100000 in
set_option maxHeartbeats 1000000 in
theorem parseBoth_05 (s t:ByteArray) (p q:Int) (w:World) (hs:s.size≤900000) (ht:t.size≤900000) (hL:LaidC w) (h1:parseE s.data.toList=0) (h2:parseE t.data.toList=5) (h3:parseV s.data.toList=p) (h4:parseV t.data.toList=q) :
 Calls Tryz.prog 87 #[.agg #[.string s,.string t]] w fun e w'=>e=.returned (.tuple #[.agg #[.int .i64 0,.int .i64 0],.int .i64 5])∧Below w.heap.size w w':=by
 have H:=Lib.hid (And.intro h1 h3)
 have K:=Lib.hid (And.intro h2 h4)
 have HS:=Lib.hid hs
 have HT:=Lib.hid ht
 have HL:=Lib.hid hL
 clear h1 h2 h3 h4 hs ht hL
 have i0:∀ w,(Instr.index 51 (.agg #[.string s,.string t]) (.int .i64 0)).run Tryz.prog w=.ok (.string s) w:=fun _=>by kernel_rfl
 have i1:∀ w,(Instr.index 51 (.agg #[.string s,.string t]) (.int .i64 1)).run Tryz.prog w=.ok (.string t) w:=fun _=>by kernel_rfl
 obtain ⟨W,hW⟩:∃ W,((w.alloc (Obj.cells #[Value.string s,Value.string t] 51)).alloc (Obj.cells #[Value.int IntKind.i64 0,Value.int IntKind.i64 0] 177)).alloc (Obj.cells #[Value.int IntKind.i64 0,Value.int IntKind.i64 0] 177)=W:=⟨_,rfl⟩
 have BW:Hid (Below w.heap.size w W):=Lib.hid (by rw [←hW];exact (((Below.refl _ _).alloc (Nat.le_refl _) _).alloc (by simp) _).alloc (by simp;omega) _)
 have LW:Hid (LaidC W):=Lib.hid (HL.out.below BW.out)
 have V2:Hid (RateVar W (w.heap.size+1) 0 0):=Lib.hid (by
  have:=(RateVar.mk (w.alloc (Obj.cells #[Value.string s,Value.string t] 51)) 0 0 177).keep ((Below.refl _ _).alloc (Nat.le_refl _) (Obj.cells #[Value.int IntKind.i64 0,Value.int IntKind.i64 0] 177)) (Nat.le_refl _)
  rw [hW] at this
  simpa using this)
 have V4:Hid (RateVar W (w.heap.size+1+1) 0 0):=Lib.hid (by
  have:=RateVar.mk ((w.alloc (Obj.cells #[Value.string s,Value.string t] 51)).alloc (Obj.cells #[Value.int IntKind.i64 0,Value.int IntKind.i64 0] 177)) 0 0 177
  rw [hW] at this
  simpa using this)
 subst hW
 go_enter Tryz.func87,Tryz.ntmps87
 go_wp2
 refine wp_loop_rounds 3 ?_
 rw [rounds_succ]
 go_wp2_with fail
 refine (cnum_long s _ (Nat.le_trans HS.out (by decide)) LW.out).mono ?_
 rintro e w1 ⟨rfl,hb1⟩
 have HB1:=Lib.hid (BW.out.trans (hb1.mono BW.out.size))
 have U2:=Lib.hid (V2.out.keep hb1 (Nat.le_refl _))
 have U4:=Lib.hid (V4.out.keep hb1 (Nat.le_refl _))
 clear hb1 V2 V4 BW LW
 rw [H.out.1,H.out.2]
 obtain ⟨⟨d0,d1⟩,e0,e1⟩:=U4.out
 go_wp2
 rw [rounds_succ]
 go_wp2_with fail
 clear d0 d1 e0 e1
 have HB2:=Lib.hid (HB1.out.setCell (p:=⟨w.heap.size+1+1,0,none⟩) (by simp;omega) (.int .i64 p))
 have T2:=Lib.hid (U2.out.other (g':=w.heap.size+1+1) (o:=0) (.int .i64 p) (by omega))
 have T4:=Lib.hid (U4.out.set0 p)
 refine (cnum_long t _ (Nat.le_trans HT.out (by decide)) (HL.out.below HB2.out)).mono ?_
 rintro e w2 ⟨rfl,hb2⟩
 have HB3:=Lib.hid (HB2.out.trans (hb2.mono HB2.out.size))
 have S2:=Lib.hid (T2.out.keep hb2 (Nat.le_refl _))
 have S4:=Lib.hid (T4.out.keep hb2 (Nat.le_refl _))
 clear hb2 T2 T4 U2 U4
 rw [K.out.1,K.out.2]
 obtain ⟨⟨c0,c1⟩,f0,f1⟩:=S2.out
 go_wp2
 exact bodyPost_ret (v:=.tuple #[.agg #[.int .i64 0,.int .i64 0],.int .i64 5]) (by simp [results,Tryz.results87,go_sem,c0,c1]) rfl ⟨rfl,(HB3.out.setCell (by simp) _).setCell (by simp) _⟩
set_option maxRecDepth 100000 in
set_option maxHeartbeats 1000000 in
theorem parseBoth_20 (s t:ByteArray) (p q:Int) (w:World) (hs:s.size≤900000) (ht:t.size≤900000) (hL:LaidC w) (h1:parseE s.data.toList=2) (h2:parseE t.data.toList=0) (h3:parseV s.data.toList=p) (h4:parseV t.data.toList=q) :
 Calls Tryz.prog 87 #[.agg #[.string s,.string t]] w fun e w'=>e=.returned (.tuple #[.agg #[.int .i64 0,.int .i64 0],.int .i64 4])∧Below w.heap.size w w':=by
 have H:=Lib.hid (And.intro h1 h3)
 have K:=Lib.hid (And.intro h2 h4)
 have HS:=Lib.hid hs
 have HT:=Lib.hid ht
 have HL:=Lib.hid hL
 clear h1 h2 h3 h4 hs ht hL
 have i0:∀ w,(Instr.index 51 (.agg #[.string s,.string t]) (.int .i64 0)).run Tryz.prog w=.ok (.string s) w:=fun _=>by kernel_rfl
 have i1:∀ w,(Instr.index 51 (.agg #[.string s,.string t]) (.int .i64 1)).run Tryz.prog w=.ok (.string t) w:=fun _=>by kernel_rfl
 obtain ⟨W,hW⟩:∃ W,((w.alloc (Obj.cells #[Value.string s,Value.string t] 51)).alloc (Obj.cells #[Value.int IntKind.i64 0,Value.int IntKind.i64 0] 177)).alloc (Obj.cells #[Value.int IntKind.i64 0,Value.int IntKind.i64 0] 177)=W:=⟨_,rfl⟩
 have BW:Hid (Below w.heap.size w W):=Lib.hid (by rw [←hW];exact (((Below.refl _ _).alloc (Nat.le_refl _) _).alloc (by simp) _).alloc (by simp;omega) _)
 have LW:Hid (LaidC W):=Lib.hid (HL.out.below BW.out)
 have V2:Hid (RateVar W (w.heap.size+1) 0 0):=Lib.hid (by
  have:=(RateVar.mk (w.alloc (Obj.cells #[Value.string s,Value.string t] 51)) 0 0 177).keep ((Below.refl _ _).alloc (Nat.le_refl _) (Obj.cells #[Value.int IntKind.i64 0,Value.int IntKind.i64 0] 177)) (Nat.le_refl _)
  rw [hW] at this
  simpa using this)
 have V4:Hid (RateVar W (w.heap.size+1+1) 0 0):=Lib.hid (by
  have:=RateVar.mk ((w.alloc (Obj.cells #[Value.string s,Value.string t] 51)).alloc (Obj.cells #[Value.int IntKind.i64 0,Value.int IntKind.i64 0] 177)) 0 0 177
  rw [hW] at this
  simpa using this)
 subst hW
 go_enter Tryz.func87,Tryz.ntmps87
 go_wp2
 refine wp_loop_rounds 3 ?_
 rw [rounds_succ]
 go_wp2_with fail
 refine (cnum_long s _ (Nat.le_trans HS.out (by decide)) LW.out).mono ?_
 rintro e w1 ⟨rfl,hb1⟩
 have HB1:=Lib.hid (BW.out.trans (hb1.mono BW.out.size))
 have U2:=Lib.hid (V2.out.keep hb1 (Nat.le_refl _))
 have U4:=Lib.hid (V4.out.keep hb1 (Nat.le_refl _))
 clear hb1 V2 V4 BW LW
 rw [H.out.1,H.out.2]
 obtain ⟨⟨d0,d1⟩,e0,e1⟩:=U4.out
 go_wp2
 rw [rounds_succ]
 go_wp2_with fail
 clear d0 d1 e0 e1
 have HB2:=Lib.hid (HB1.out.setCell (p:=⟨w.heap.size+1+1,0,none⟩) (by simp;omega) (.int .i64 p))
 have T2:=Lib.hid (U2.out.other (g':=w.heap.size+1+1) (o:=0) (.int .i64 p) (by omega))
 have T4:=Lib.hid (U4.out.set0 p)
 refine (cnum_long t _ (Nat.le_trans HT.out (by decide)) (HL.out.below HB2.out)).mono ?_
 rintro e w2 ⟨rfl,hb2⟩
 have HB3:=Lib.hid (HB2.out.trans (hb2.mono HB2.out.size))
 have S2:=Lib.hid (T2.out.keep hb2 (Nat.le_refl _))
 have S4:=Lib.hid (T4.out.keep hb2 (Nat.le_refl _))
 clear hb2 T2 T4 U2 U4
 rw [K.out.1,K.out.2]
 obtain ⟨⟨c0,c1⟩,f0,f1⟩:=S2.out
 obtain ⟨⟨d0,d1⟩,e0,e1⟩:=S4.out
 go_wp2
 rw [rounds_succ]
 go_wp2
 exact bodyPost_ret (v:=.tuple #[.agg #[.int .i64 0,.int .i64 0],.int .i64 4]) (by simp [results,Tryz.results87,go_sem,c0,c1]) rfl ⟨rfl,((HB3.out.setCell (by simp;omega) _).setCell (by simp) _).setCell (by simp) _⟩
set_option maxRecDepth 100000 in
set_option maxHeartbeats 1000000 in
theorem parseBoth_22 (s t:ByteArray) (p q:Int) (w:World) (hs:s.size≤900000) (ht:t.size≤900000) (hL:LaidC w) (h1:parseE s.data.toList=2) (h2:parseE t.data.toList=2) (h3:parseV s.data.toList=p) (h4:parseV t.data.toList=q) :
 Calls Tryz.prog 87 #[.agg #[.string s,.string t]] w fun e w'=>e=.returned (.tuple #[.agg #[.int .i64 0,.int .i64 0],.int .i64 4])∧Below w.heap.size w w':=by
 have H:=Lib.hid (And.intro h1 h3)
 have K:=Lib.hid (And.intro h2 h4)
 have HS:=Lib.hid hs
 have HT:=Lib.hid ht
 have HL:=Lib.hid hL
 clear h1 h2 h3 h4 hs ht hL
 have i0:∀ w,(Instr.index 51 (.agg #[.string s,.string t]) (.int .i64 0)).run Tryz.prog w=.ok (.string s) w:=fun _=>by kernel_rfl
 have i1:∀ w,(Instr.index 51 (.agg #[.string s,.string t]) (.int .i64 1)).run Tryz.prog w=.ok (.string t) w:=fun _=>by kernel_rfl
 obtain ⟨W,hW⟩:∃ W,((w.alloc (Obj.cells #[Value.string s,Value.string t] 51)).alloc (Obj.cells #[Value.int IntKind.i64 0,Value.int IntKind.i64 0] 177)).alloc (Obj.cells #[Value.int IntKind.i64 0,Value.int IntKind.i64 0] 177)=W:=⟨_,rfl⟩
 have BW:Hid (Below w.heap.size w W):=Lib.hid (by rw [←hW];exact (((Below.refl _ _).alloc (Nat.le_refl _) _).alloc (by simp) _).alloc (by simp;omega) _)
 have LW:Hid (LaidC W):=Lib.hid (HL.out.below BW.out)
 have V2:Hid (RateVar W (w.heap.size+1) 0 0):=Lib.hid (by
  have:=(RateVar.mk (w.alloc (Obj.cells #[Value.string s,Value.string t] 51)) 0 0 177).keep ((Below.refl _ _).alloc (Nat.le_refl _) (Obj.cells #[Value.int IntKind.i64 0,Value.int IntKind.i64 0] 177)) (Nat.le_refl _)
  rw [hW] at this
  simpa using this)
 have V4:Hid (RateVar W (w.heap.size+1+1) 0 0):=Lib.hid (by
  have:=RateVar.mk ((w.alloc (Obj.cells #[Value.string s,Value.string t] 51)).alloc (Obj.cells #[Value.int IntKind.i64 0,Value.int IntKind.i64 0] 177)) 0 0 177
  rw [hW] at this
  simpa using this)
 subst hW
 go_enter Tryz.func87,Tryz.ntmps87
 go_wp2
 refine wp_loop_rounds 3 ?_
 rw [rounds_succ]
 go_wp2_with fail
 refine (cnum_long s _ (Nat.le_trans HS.out (by decide)) LW.out).mono ?_
 rintro e w1 ⟨rfl,hb1⟩
 have HB1:=Lib.hid (BW.out.trans (hb1.mono BW.out.size))
 have U2:=Lib.hid (V2.out.keep hb1 (Nat.le_refl _))
 have U4:=Lib.hid (V4.out.keep hb1 (Nat.le_refl _))
 clear hb1 V2 V4 BW LW
 rw [H.out.1,H.out.2]
 obtain ⟨⟨d0,d1⟩,e0,e1⟩:=U4.out
 go_wp2
 rw [rounds_succ]
 go_wp2_with fail
 clear d0 d1 e0 e1
 have HB2:=Lib.hid (HB1.out.setCell (p:=⟨w.heap.size+1+1,0,none⟩) (by simp;omega) (.int .i64 p))
 have T2:=Lib.hid (U2.out.other (g':=w.heap.size+1+1) (o:=0) (.int .i64 p) (by omega))
 have T4:=Lib.hid (U4.out.set0 p)
 refine (cnum_long t _ (Nat.le_trans HT.out (by decide)) (HL.out.below HB2.out)).mono ?_
 rintro e w2 ⟨rfl,hb2⟩
 have HB3:=Lib.hid (HB2.out.trans (hb2.mono HB2.out.size))
 have S2:=Lib.hid (T2.out.keep hb2 (Nat.le_refl _))
 have S4:=Lib.hid (T4.out.keep hb2 (Nat.le_refl _))
 clear hb2 T2 T4 U2 U4
 rw [K.out.1,K.out.2]
 obtain ⟨⟨c0,c1⟩,f0,f1⟩:=S2.out
 obtain ⟨⟨d0,d1⟩,e0,e1⟩:=S4.out
 go_wp2
 rw [rounds_succ]
 go_wp2
 exact bodyPost_ret (v:=.tuple #[.agg #[.int .i64 0,.int .i64 0],.int .i64 4]) (by simp [results,Tryz.results87,go_sem,c0,c1]) rfl ⟨rfl,((HB3.out.setCell (by simp;omega) _).setCell (by simp) _).setCell (by simp) _⟩
set_option maxRecDepth 100000 in
set_option maxHeartbeats 1000000 in
theorem parseBoth_25 (s t:ByteArray) (p q:Int) (w:World) (hs:s.size≤900000) (ht:t.size≤900000) (hL:LaidC w) (h1:parseE s.data.toList=2) (h2:parseE t.data.toList=5) (h3:parseV s.data.toList=p) (h4:parseV t.data.toList=q) :
 Calls Tryz.prog 87 #[.agg #[.string s,.string t]] w fun e w'=>e=.returned (.tuple #[.agg #[.int .i64 0,.int .i64 0],.int .i64 5])∧Below w.heap.size w w':=by
 have H:=Lib.hid (And.intro h1 h3)
 have K:=Lib.hid (And.intro h2 h4)
 have HS:=Lib.hid hs
 have HT:=Lib.hid ht
 have HL:=Lib.hid hL
 clear h1 h2 h3 h4 hs ht hL
 have i0:∀ w,(Instr.index 51 (.agg #[.string s,.string t]) (.int .i64 0)).run Tryz.prog w=.ok (.string s) w:=fun _=>by kernel_rfl
 have i1:∀ w,(Instr.index 51 (.agg #[.string s,.string t]) (.int .i64 1)).run Tryz.prog w=.ok (.string t) w:=fun _=>by kernel_rfl
 obtain ⟨W,hW⟩:∃ W,((w.alloc (Obj.cells #[Value.string s,Value.string t] 51)).alloc (Obj.cells #[Value.int IntKind.i64 0,Value.int IntKind.i64 0] 177)).alloc (Obj.cells #[Value.int IntKind.i64 0,Value.int IntKind.i64 0] 177)=W:=⟨_,rfl⟩
 have BW:Hid (Below w.heap.size w W):=Lib.hid (by rw [←hW];exact (((Below.refl _ _).alloc (Nat.le_refl _) _).alloc (by simp) _).alloc (by simp;omega) _)
 have LW:Hid (LaidC W):=Lib.hid (HL.out.below BW.out)
 have V2:Hid (RateVar W (w.heap.size+1) 0 0):=Lib.hid (by
  have:=(RateVar.mk (w.alloc (Obj.cells #[Value.string s,Value.string t] 51)) 0 0 177).keep ((Below.refl _ _).alloc (Nat.le_refl _) (Obj.cells #[Value.int IntKind.i64 0,Value.int IntKind.i64 0] 177)) (Nat.le_refl _)
  rw [hW] at this
  simpa using this)
 have V4:Hid (RateVar W (w.heap.size+1+1) 0 0):=Lib.hid (by
  have:=RateVar.mk ((w.alloc (Obj.cells #[Value.string s,Value.string t] 51)).alloc (Obj.cells #[Value.int IntKind.i64 0,Value.int IntKind.i64 0] 177)) 0 0 177
  rw [hW] at this
  simpa using this)
 subst hW
 go_enter Tryz.func87,Tryz.ntmps87
 go_wp2
 refine wp_loop_rounds 3 ?_
 rw [rounds_succ]
 go_wp2_with fail
 refine (cnum_long s _ (Nat.le_trans HS.out (by decide)) LW.out).mono ?_
 rintro e w1 ⟨rfl,hb1⟩
 have HB1:=Lib.hid (BW.out.trans (hb1.mono BW.out.size))
 have U2:=Lib.hid (V2.out.keep hb1 (Nat.le_refl _))
 have U4:=Lib.hid (V4.out.keep hb1 (Nat.le_refl _))
 clear hb1 V2 V4 BW LW
 rw [H.out.1,H.out.2]
 obtain ⟨⟨d0,d1⟩,e0,e1⟩:=U4.out
 go_wp2
 rw [rounds_succ]
 go_wp2_with fail
 clear d0 d1 e0 e1
 have HB2:=Lib.hid (HB1.out.setCell (p:=⟨w.heap.size+1+1,0,none⟩) (by simp;omega) (.int .i64 p))
 have T2:=Lib.hid (U2.out.other (g':=w.heap.size+1+1) (o:=0) (.int .i64 p) (by omega))
 have T4:=Lib.hid (U4.out.set0 p)
 refine (cnum_long t _ (Nat.le_trans HT.out (by decide)) (HL.out.below HB2.out)).mono ?_
 rintro e w2 ⟨rfl,hb2⟩
 have HB3:=Lib.hid (HB2.out.trans (hb2.mono HB2.out.size))
 have S2:=Lib.hid (T2.out.keep hb2 (Nat.le_refl _))
 have S4:=Lib.hid (T4.out.keep hb2 (Nat.le_refl _))
 clear hb2 T2 T4 U2 U4
 rw [K.out.1,K.out.2]
 obtain ⟨⟨c0,c1⟩,f0,f1⟩:=S2.out
 go_wp2
 exact bodyPost_ret (v:=.tuple #[.agg #[.int .i64 0,.int .i64 0],.int .i64 5]) (by simp [results,Tryz.results87,go_sem,c0,c1]) rfl ⟨rfl,(HB3.out.setCell (by simp) _).setCell (by simp) _⟩
theorem parseBoth_any (s t:ByteArray) (w:World) (hs:s.size≤900000) (ht:t.size≤900000) (hL:LaidC w) :
 Calls Tryz.prog 87 #[.agg #[.string s,.string t]] w fun e w'=>e=.returned (.tuple #[.agg #[.int .i64 (if bothE (parseE s.data.toList) (parseE t.data.toList)=0 then parseV s.data.toList else 0),.int .i64 (if bothE (parseE s.data.toList) (parseE t.data.toList)=0 then parseV t.data.toList else 0)],.int .i64 (bothE (parseE s.data.toList) (parseE t.data.toList))])∧Below w.heap.size w w':=by
 rcases parseE_cases s.data.toList with h1 | h1 | h1
 ·rcases parseE_cases t.data.toList with h2 | h2 | h2
  ·rw [h1,h2];exact parseBoth_00 s t _ _ w hs ht hL h1 h2 rfl rfl
  ·rw [h1,h2];exact parseBoth_02 s t _ _ w hs ht hL h1 h2 rfl rfl
  ·rw [h1,h2];exact parseBoth_05 s t _ _ w hs ht hL h1 h2 rfl rfl
 ·rcases parseE_cases t.data.toList with h2 | h2 | h2
  ·rw [h1,h2];exact parseBoth_20 s t _ _ w hs ht hL h1 h2 rfl rfl
  ·rw [h1,h2];exact parseBoth_22 s t _ _ w hs ht hL h1 h2 rfl rfl
  ·rw [h1,h2];exact parseBoth_25 s t _ _ w hs ht hL h1 h2 rfl rfl
 ·have e:bothE 5 (parseE t.data.toList)=5:=if_pos (.inl rfl)
  rw [h1,e]
  exact parseBoth_first s t w hs hL h1
end Go.Proofs.YthcpglnmhimepaaGreatDoor.Ra
end
section
namespace Go.Proofs.YthcpglnmhimepaaGreatDoor.Ra
open Go.RowKit
theorem prs_bad {l:List UInt8} (h:bothE (parseE (ahead l)) (parseE (behind l))≠0):prsE l=bothE (parseE (ahead l)) (parseE (behind l))∧prsN l=0∧prsD l=0:=by
 have e:prsE l=bothE (parseE (ahead l)) (parseE (behind l)):=by
  unfold prsE bothE at *
  split
  ·rfl
  ·rename_i h5
   rw [if_neg h5] at h
   split
   ·rfl
   ·rename_i h0
    rw [if_neg h0] at h;exact absurd rfl h
 have e0:prsE l≠0:=by rw [e];exact h
 exact ⟨e,if_neg e0,if_neg e0⟩
theorem prs_good {l:List UInt8} (h:bothE (parseE (ahead l)) (parseE (behind l))=0):prsE l=mkE (parseV (ahead l)) (parseV (behind l))∧prsN l=mkN (parseV (ahead l)) (parseV (behind l))∧prsD l=mkD (parseV (ahead l)) (parseV (behind l)):=by
 have h2:parseE (ahead l)=0∧parseE (behind l)=0:=by
  unfold bothE at h
  split at h
  ·cases h
  ·split at h
   ·cases h
   ·omega
 exact prs_of rfl h2.1 rfl h2.2
set_option maxHeartbeats 1000000 in
theorem rparse_any (s:ByteArray) (w:World) (hs:s.size≤800000) (hL:LaidC w) :
 Calls Tryz.prog 49 #[.string s] w fun e w'=>e=.returned (.tuple #[.agg #[.int .i64 (prsN s.data.toList),.int .i64 (prsD s.data.toList)],.int .i64 (prsE s.data.toList)])∧Below w.heap.size w w':=by
 obtain ⟨l,hl⟩:∃ l,s.data.toList=l:=⟨_,rfl⟩
 have hlen:l.length≤800000:=by rw [←hl];simpa using hs
 have HLA:Hid ((ByteArray.mk (ahead l).toArray).size≤900000):=Lib.hid (by have:=ahead_length l;simp [ByteArray.size];omega)
 have HLB:Hid ((ByteArray.mk (behind l).toArray).size≤900000):=Lib.hid (by have:=behind_length l;simp [ByteArray.size];omega)
 rw [hl]
 have HS:Hid (s.size≤maxLen):=Lib.hid (by unfold maxLen;omega)
 have HE:=Lib.hid hl
 have HL:=Lib.hid hL
 clear hl hs hL hlen
 by_cases h:bothE (parseE (ahead l)) (parseE (behind l))=0
 ·obtain ⟨p1,p2,p3⟩:=prs_good h
  rw [p1,p2,p3]
  clear p1 p2 p3
  have I1:=Lib.hid (in64_of_fit (fit_parseV (ahead l)))
  have I2:=Lib.hid (in64_of_fit (fit_parseV (behind l)))
  have H:=Lib.hid h
  clear h
  obtain ⟨n,hn⟩:∃ n,parseV (ahead l)=n:=⟨_,rfl⟩
  obtain ⟨d,hd⟩:∃ d,parseV (behind l)=d:=⟨_,rfl⟩
  rw [hn] at I1 ⊢
  rw [hd] at I2 ⊢
  obtain ⟨x,hx⟩:∃ x,mkN n d=x:=⟨_,rfl⟩
  obtain ⟨y,hy⟩:∃ y,mkD n d=y:=⟨_,rfl⟩
  obtain ⟨z,hz⟩:∃ z,mkE n d=z:=⟨_,rfl⟩
  rw [hx,hy,hz]
  have HND:=Lib.hid (And.intro hn hd)
  have HXYZ:=Lib.hid (And.intro hx (And.intro hy hz))
  clear hn hd hx hy hz
  go_enter Tryz.func49,Tryz.ntmps49
  go_wp2_with fail
  refine (halves_any s _ HS.out).mono ?_
  rintro e w1 ⟨rfl,hb1⟩
  have HB1:=Lib.hid (((Below.refl w.heap.size w).alloc (Nat.le_refl _) _).trans (hb1.mono (by simp)))
  have V1:=Lib.hid ((RateVar.mk w 0 0 53).keep hb1 (Nat.le_refl _))
  clear hb1
  rw [HE.out]
  go_wp2_with fail
  refine (parseBoth_any _ _ _ HLA.out HLB.out (HL.out.below HB1.out)).mono ?_
  rintro e w2 ⟨rfl,hb2⟩
  have HB2:=Lib.hid (HB1.out.trans (hb2.mono HB1.out.size))
  have V2:=Lib.hid (V1.out.keep hb2 (Nat.le_refl _))
  clear hb2 V1
  rw [show (ByteArray.mk (ahead l).toArray).data.toList=ahead l from rfl,show (ByteArray.mk (behind l).toArray).data.toList=behind l from rfl,H.out,if_pos rfl,if_pos rfl,HND.out.1,HND.out.2]
  go_wp2_with fail
  refine (make_any n d _ I1.out I2.out).mono ?_
  rintro e w3 ⟨rfl,hb3⟩
  have HB3:=Lib.hid ((HB2.out.alloc HB2.out.size _).trans (hb3.mono (Nat.le_trans HB2.out.size (by simp))))
  have V3:=Lib.hid ((V2.out.keep ((Below.refl _ _).alloc (Nat.le_refl _) _) (Nat.le_refl _)).keep hb3 (Nat.le_refl _))
  clear hb3 V2
  rw [HXYZ.out.1,HXYZ.out.2.1,HXYZ.out.2.2]
  obtain ⟨⟨c0,c1⟩,f0,f1⟩:=V3.out
  go_wp2
  exact bodyPost_ret (v:=.tuple #[.agg #[.int .i64 x,.int .i64 y],.int .i64 z]) (by simp [results,Tryz.results49,go_sem,c0,c1]) rfl ⟨rfl,(HB3.out.setCell (Nat.le_refl _) _).setCell (Nat.le_refl _) _⟩
 ·obtain ⟨p1,p2,p3⟩:=prs_bad h
  rw [p1,p2,p3]
  clear p1 p2 p3
  have H:=Lib.hid h
  have h1:((bothE (parseE (ahead l)) (parseE (behind l))) != 0)=true:=by simpa using h
  have h2:((bothE (parseE (ahead l)) (parseE (behind l)))==0)=false:=by simpa using h
  clear h
  obtain ⟨E,hE⟩:∃ E,bothE (parseE (ahead l)) (parseE (behind l))=E:=⟨_,rfl⟩
  rw [hE] at h1 h2 H ⊢
  have HEE:=Lib.hid hE
  clear hE
  go_enter Tryz.func49,Tryz.ntmps49
  go_wp2_with fail
  refine (halves_any s _ HS.out).mono ?_
  rintro e w1 ⟨rfl,hb1⟩
  have HB1:=Lib.hid (((Below.refl w.heap.size w).alloc (Nat.le_refl _) _).trans (hb1.mono (by simp)))
  have V1:=Lib.hid ((RateVar.mk w 0 0 53).keep hb1 (Nat.le_refl _))
  clear hb1
  rw [HE.out]
  go_wp2_with fail
  refine (parseBoth_any _ _ _ HLA.out HLB.out (HL.out.below HB1.out)).mono ?_
  rintro e w2 ⟨rfl,hb2⟩
  have HB2:=Lib.hid (HB1.out.trans (hb2.mono HB1.out.size))
  have V2:=Lib.hid (V1.out.keep hb2 (Nat.le_refl _))
  clear hb2 V1
  rw [show (ByteArray.mk (ahead l).toArray).data.toList=ahead l from rfl,show (ByteArray.mk (behind l).toArray).data.toList=behind l from rfl,HEE.out,if_neg H.out,if_neg H.out]
  have V3:=Lib.hid (V2.out.keep ((Below.refl _ _).alloc (Nat.le_refl _) (.cells #[.int .i64 0,.int .i64 0] 177)) (Nat.le_refl _))
  obtain ⟨⟨c0,c1⟩,f0,f1⟩:=V3.out
  go_wp2
  exact bodyPost_ret (v:=.tuple #[.agg #[.int .i64 0,.int .i64 0],.int .i64 E]) (by simp [results,Tryz.results49,go_sem,c0,c1]) rfl ⟨rfl,((HB2.out.alloc HB2.out.size _).setCell (Nat.le_refl _) _).setCell (Nat.le_refl _) _⟩
theorem print_held (a n d:Int) (u:ByteArray) (w0 w:World) (g:Nat) (hu:Hid (ByteArray.mk (Lib.itoa a).toArray=u)) (ha:In64 a) (k0:w.cell? ⟨g,0,none⟩=some (.int .i64 n)) (k1:w.cell? ⟨g,1,none⟩=some (.int .i64 d)) (kl:LaidC w0) (kb:Below w0.heap.size w0 w) :
 Calls Tryz.prog 94 #[.int .i64 a] w fun e w'=>e=.returned (.string u)∧(w'.cell? ⟨g,0,none⟩=some (.int .i64 n)∧w'.cell? ⟨g,1,none⟩=some (.int .i64 d))∧Below w0.heap.size w0 w':=by
 refine (print_any a w ha (kl.below kb)).mono ?_
 rintro e w' ⟨rfl,hb⟩
 rw [hu.out]
 exact ⟨rfl,⟨(hb.cell (p:=⟨g,0,none⟩) (World.block_lt_of_cell? w _ k0)).trans k0,(hb.cell (p:=⟨g,1,none⟩) (World.block_lt_of_cell? w _ k1)).trans k1⟩,kb.trans (hb.mono kb.size)⟩
set_option maxRecDepth 100000 in
set_option maxHeartbeats 1000000 in
theorem rprint_any (n d:Int) (w:World) (hn:In64 n) (hd:In64 d) (hL:LaidC w) :
 Calls Tryz.prog 53 #[.agg #[.int .i64 n,.int .i64 d]] w fun e w'=>e=.returned (.string ⟨(prt n d).toArray⟩)∧Below w.heap.size w w':=by
 have HN:=Lib.hid hn
 have HD:=Lib.hid hd
 have HL:=Lib.hid hL
 clear hn hd hL
 cases h:rightB n d with
 | false =>
   rw [show prt n d=[] by unfold prt;rw [h];rfl]
   have H:=Lib.hid h
   clear h
   go_enter Tryz.func53,Tryz.ntmps53
   go_wp2_with fail
   refine (right_any n d _ HN.out HD.out).mono ?_
   rintro e w1 ⟨rfl,hb1⟩
   have HB1:=Lib.hid (((Below.refl w.heap.size w).alloc (Nat.le_refl _) _).trans (hb1.mono (by simp)))
   clear hb1
   rw [H.out]
   go_wp2
   go_ret
   exact ⟨rfl,HB1.out⟩
 | true =>
   have H:=Lib.hid h
   clear h
   by_cases h1:d=1
   ·subst h1
    rw [show prt n 1=Lib.itoa n by unfold prt;rw [H.out];rfl]
    go_enter Tryz.func53,Tryz.ntmps53
    go_wp2_with fail
    refine (right_any n 1 _ HN.out HD.out).mono ?_
    rintro e w1 ⟨rfl,hb1⟩
    have HB1:=Lib.hid (((Below.refl w.heap.size w).alloc (Nat.le_refl _) _).trans (hb1.mono (by simp)))
    obtain ⟨c0,c1⟩:=(RateAt.mk w n 1 53).keep hb1 (Nat.le_refl _)
    clear hb1
    rw [H.out]
    go_wp2_with fail
    clear c0 c1
    refine (print_any n _ HN.out (HL.out.below HB1.out)).mono ?_
    rintro e w2 ⟨rfl,hb2⟩
    have HB2:=Lib.hid (HB1.out.trans (hb2.mono HB1.out.size))
    clear hb2
    go_wp2
    go_ret
    exact ⟨rfl,HB2.out⟩
   ·rw [show prt n d=Lib.itoa n++47::Lib.itoa d by unfold prt;rw [H.out,if_pos rfl,if_neg h1]]
    have h2:(d==1)=false:=by simpa using h1
    clear h1
    obtain ⟨u,hu⟩:∃ u,ByteArray.mk (Lib.itoa n).toArray=u:=⟨_,rfl⟩
    obtain ⟨v,hv⟩:∃ v,ByteArray.mk (Lib.itoa d).toArray=v:=⟨_,rfl⟩
    have hus:u.size≤21:=by rw [←hu];have:=Lib.itoa_length_le n HN.out.1 HN.out.2;simpa [ByteArray.size] using this
    have hvs:v.size≤21:=by rw [←hv];have:=Lib.itoa_length_le d HD.out.1 HD.out.2;simpa [ByteArray.size] using this
    have huv:(u++⟨#[47]⟩)++v=⟨(Lib.itoa n++47::Lib.itoa d).toArray⟩:=by
     rw [←hu,←hv]
     apply ByteArray.ext
     simp [ByteArray.data_append]
    rw [←huv]
    have q1:¬ 9223372036854775807 < u.size+1:=by omega
    have q2:¬ 9223372036854775806 < u.size:=by omega
    have q3:¬ 9223372036854775807 < u.size+1+v.size:=by omega
    have HU:=Lib.hid hu
    have HV:=Lib.hid hv
    clear hu hv huv hus hvs
    go_enter Tryz.func53,Tryz.ntmps53
    go_wp2_with fail
    refine (right_any n d _ HN.out HD.out).mono ?_
    rintro e w1 ⟨rfl,hb1⟩
    have kb:=((Below.refl w.heap.size w).alloc (Nat.le_refl _) _).trans (hb1.mono (by simp))
    obtain ⟨k0,k1⟩:=(RateAt.mk w n d 53).keep hb1 (Nat.le_refl _)
    clear hb1
    rw [H.out]
    go_wp2_with fail
    generalize w.heap.size=g at k0 k1 ⊢
    go_region_held3 (fun w'=>(w'.cell? ⟨g,0,none⟩=some (.int .i64 n)∧w'.cell? ⟨g,1,none⟩=some (.int .i64 d))∧Below w.heap.size w w') (first | exact ⟨⟨k0,k1⟩,kb⟩ | exact ⟨⟨k0,k1⟩,kb.drew⟩ | exact ⟨⟨m0,m1⟩,mb⟩ | exact ⟨⟨l0,l1⟩,lb⟩ | fail)
     (first
      | (go_at_call 94;refine (print_held n n d u w _ g HU HN.out (by exact k0) (by exact k1) HL.out (by exact kb.drew)).mono ?_;rintro e w5 ⟨rfl,⟨l0,l1⟩,lb⟩)
      | (go_at_call 94;refine (print_held d n d v w _ g HV HD.out (by exact l0) (by exact l1) HL.out (by exact lb)).mono ?_;rintro e w6 ⟨rfl,⟨m0,m1⟩,mb⟩)
      | fail)
    go_wp2
    go_ret
    exact ⟨rfl,mb⟩
end Go.Proofs.YthcpglnmhimepaaGreatDoor.Ra
end
section
namespace Go.Proofs.YthcpglnmhimepaaGreatDoor.Pk
open Go.RowKit
structure Leave (ok:Nat→Prop) (w:World) where
 its:World
 keep:∀ j,ok j→j < w.heap.size→its.heap[j]?=w.heap[j]?
instance (ok:Nat→Prop) (w:World):Nonempty (Leave ok w):=⟨⟨w,fun _ _ _=>rfl⟩⟩
theorem cell_leave {ok:Nat→Prop} {w:World} {ad:Addr} {v:Value} (h:w.cell? ad=some v) (hb:ok ad.block) (p:Leave ok w):p.its.cell? ad=some v:=by
 have hlt:=World.block_lt_of_cell? w _ h
 have:=p.keep ad.block hb hlt
 unfold World.cell? at h ⊢
 rw [this];exact h
theorem leave_in {ok:Nat→Prop} {w0 w:World} (h:∀ j,ok j→j < w0.heap.size→w.heap[j]?=w0.heap[j]?):∃ p:Leave ok w0,w=p.its:=⟨⟨w,h⟩,rfl⟩
end Go.Proofs.YthcpglnmhimepaaGreatDoor.Pk
end
section
namespace Go.Proofs.YthcpglnmhimepaaGreatDoor
open Go.RowKit
theorem info_string:(Tryz.prog.info? 9).map (fun i=>(i.zero,i.size,i.bytes))=some (some (.string ⟨#[]⟩),1,16):=by kernel_rfl
theorem fieldsGo_snoc (cur:List UInt8) (c:UInt8) (r:List UInt8) (h:gapB c=false):fieldsGo cur (c::r)=fieldsGo (cur++[c]) r:=by simp [fieldsGo,h]
theorem fieldsGo_end (cur:List UInt8) (c:UInt8) (r:List UInt8) (h:gapB c=true) (hc:cur≠[]):fieldsGo cur (c::r)=cur::fieldsGo [] r:=by simp [fieldsGo,h,hc]
theorem fieldsGo_skip (c:UInt8) (r:List UInt8) (h:gapB c=true):fieldsGo [] (c::r)=fieldsGo [] r:=by simp [fieldsGo,h]
theorem drop_at (s:ByteArray) (k:Nat) (h:k < s.size):s.data.toList.drop k=s[k]::s.data.toList.drop (k+1):=by
 have:s[k]=s.data.toList[k]'(by rw [size_list];exact h):=by simp [ByteArray.getElem_eq_getElem_data]
 rw [this];exact List.drop_eq_getElem_cons _
theorem gapB_dec (c:UInt8):gapB c=decide (c.toNat=9∨c.toNat=32):=by
 rw [←gapR_byte];unfold gapR;rw [Bool.eq_iff_iff];simp
theorem bytes_add (t u:ByteArray):(t++u).data.toList=t.data.toList++u.data.toList:=by simp [ByteArray.data_append]
def RWordsPost (w:World) (ws:List (List UInt8)) (e:Ending) (w':World):Prop :=
 ∃ v,e=.returned v∧w'.ownsRow w.heap.size 9 1 v (ws.map mkB).length ((ws.map mkB).map Value.string)∧Below w.heap.size w w'
def RWordsAt (w:World) (l:List UInt8) (s3 s4 s5:Value) (wr:World):Prop :=
 ∃ (k:Nat) (t:ByteArray) (out:List (List UInt8)),k≤l.length∧s5=.int .i64 (k:Int)∧s4=.string t∧t.size≤k∧out.length≤k∧wr.ownsRow w.heap.size 9 1 s3 (out.map mkB).length ((out.map mkB).map Value.string) ∧
   wordsL l=out++fieldsGo t.data.toList (said (l.drop k))∧Below w.heap.size w wr
set_option maxRecDepth 100000 in
set_option maxHeartbeats 2000000 in
theorem lrwords_any (s:ByteArray) (w:World) (hs:s.size≤30000) :
 Calls Tryz.prog 38 #[.string s] w (RWordsPost w (wordsL s.data.toList)):=by
 obtain ⟨i0,hi,hz0,hz1,hz2⟩:=info_parts info_string
 have HI:=Lib.hid (And.intro hi (And.intro hz0 (And.intro hz1 hz2)))
 clear hi hz0 hz1 hz2
 have HSL:=Lib.hid (size_list s)
 obtain ⟨WL,hWL⟩:∃ WL,wordsL s.data.toList=WL:=⟨_,rfl⟩
 rw [hWL]
 have HWL:=Lib.hid hWL
 clear hWL
 go_enter Tryz.func38,Tryz.ntmps38
 go_wp2
 go_loopw [3,4,5] (fun s3 s4 s5 wr=>RWordsAt w s.data.toList s3 s4 s5 wr) (fun _ _ s5 _=>s.size - (intOf s5).toNat)
 case atStart=>exact ⟨0,⟨#[]⟩,[],Nat.zero_le _,rfl,rfl,Nat.le_refl _,Nat.le_refl _,World.ownsRow_nil _ _ _ _,rfl,Below.refl _ _⟩
 case round =>
  obtain ⟨k,t,out,hk,rfl,rfl,htk,hok,hown,hW,hnx⟩:=hrel
  rw [HSL.out] at hk
  have HW:=Lib.hid hW
  clear hW
  have hsz:=hnx.size
  by_cases hlt:k < s.size
  ·have hd:=drop_at s k hlt
   have hcb:s[k].toNat < 256:=UInt8.toNat_lt _
   by_cases h35:s[k].toNat=35
   ·have h35b:((s[k].toNat:Int) != 35)=false:=by rw [bne_eq_false_iff_eq];omega
    have HSD:Hid (said (s.data.toList.drop k)=[]):=Lib.hid (by
     rw [hd,said,if_pos (UInt8.toNat_inj.1 h35)])
    clear hd h35
    by_cases hte:t.data.toList=[]
    ·obtain rfl:t=⟨#[]⟩:=by rw [←mkB_list t,hte];rfl
     have HN:Hid (WL=out):=Lib.hid (by rw [←HWL.out,HW.out,HSD.out];simp [fieldsGo])
     clear hte
     go_wp2
     go_ret
     exact ⟨_,rfl,by rw [HN.out];exact hown,hnx⟩
    ·have HN:Hid (WL=out++[t.data.toList]):=Lib.hid (by rw [←HWL.out,HW.out,HSD.out];simp [fieldsGo,hte])
     have ht1:(!t.toList.isEmpty)=true:=by
      rw [ByteArray.toList_eq]
      cases hh:t.data.toList with
      | nil=>exact absurd hh hte
      | cons x r=>rfl
     clear hte
     go_wp2_with (at_builtin;refine wpList_append_own _ rfl _ _ 66 rfl w.heap.size 9 i0 (.string ⟨#[]⟩) 1 16 Tryz.underlying66 HI.out.1 HI.out.2.1 HI.out.2.2.1 HI.out.2.2.2 rfl (by decide) _ _ _ rfl (hown.alloc _) ⟨wr.heap.size,0,none⟩ 1 1 [.string t] rfl rfl (cell_one_new _ _ _) (by intro u hu;simp at hu;subst hu;rfl) (by rw [List.length_map];unfold maxLen;omega) (by rw [List.length_map];omega) (by simp;omega) ?_;intro v' w1 hown' hgrow _)
     go_ret
     exact ⟨_,rfl,by rw [HN.out];rw [List.map_append,List.map_append,List.length_append];simpa [mkB_list] using hown',below_grown (hnx.alloc hsz _) (by simp;omega) (hown.alloc _) hgrow⟩
   ·have h35b:((s[k].toNat:Int) != 35)=true:=by rw [bne_iff_ne];omega
    have HSD:Hid (said (s.data.toList.drop k)=s[k]::said (s.data.toList.drop (k+1))):=Lib.hid (by
     rw [hd,said,if_neg (fun e=>h35 (by rw [e];rfl))])
    have hgd:=gapB_dec s[k]
    clear hd
    by_cases h9:s[k].toNat=9
    ·have HG:Hid (gapB s[k]=true):=Lib.hid (by rw [hgd];exact decide_eq_true (.inl h9))
     have n9:((s[k].toNat:Int)==9)=true:=by rw [beq_iff_eq];omega
     clear hgd h9 h35
     by_cases hte:t.data.toList=[]
     ·obtain rfl:t=⟨#[]⟩:=by rw [←mkB_list t,hte];rfl
      have HN:Hid (WL=out++fieldsGo [] (said (s.data.toList.drop (k+1)))):=Lib.hid (by rw [←HWL.out,HW.out,HSD.out,show (ByteArray.mk #[]).data.toList=[] from rfl,fieldsGo_skip _ _ HG.out])
      clear hte
      go_wp2
      go_roundw
      case rel=>exact ⟨k+1,⟨#[]⟩,out,by rw [HSL.out];omega,by go_num,rfl,Nat.zero_le _,by omega,hown,by rw [HWL.out];exact HN.out,hnx⟩
      case measure=>simp [intOf];omega
     ·have HN:Hid (WL=(out++[t.data.toList])++fieldsGo [] (said (s.data.toList.drop (k+1)))):=Lib.hid (by rw [←HWL.out,HW.out,HSD.out,fieldsGo_end _ _ _ HG.out hte];simp)
      have ht1:(!t.toList.isEmpty)=true:=by
       rw [ByteArray.toList_eq]
       cases hh:t.data.toList with
       | nil=>exact absurd hh hte
       | cons x r=>rfl
      clear hte
      go_wp2_with (at_builtin;refine wpList_append_own _ rfl _ _ 66 rfl w.heap.size 9 i0 (.string ⟨#[]⟩) 1 16 Tryz.underlying66 HI.out.1 HI.out.2.1 HI.out.2.2.1 HI.out.2.2.2 rfl (by decide) _ _ _ rfl (hown.alloc _) ⟨wr.heap.size,0,none⟩ 1 1 [.string t] rfl rfl (cell_one_new _ _ _) (by intro u hu;simp at hu;subst hu;rfl) (by rw [List.length_map];unfold maxLen;omega) (by rw [List.length_map];omega) (by simp;omega) ?_;intro v' w1 hown' hgrow _)
      go_roundw
      case rel=>exact ⟨k+1,⟨#[]⟩,out++[t.data.toList],by rw [HSL.out];omega,by go_num,rfl,Nat.zero_le _,by simp;omega,by rw [List.map_append,List.map_append,List.length_append];simpa [mkB_list] using hown',by rw [HWL.out];exact HN.out,below_grown (hnx.alloc hsz _) (by simp;omega) (hown.alloc _) hgrow⟩
      case measure=>simp [intOf];omega
    ·have n9:((s[k].toNat:Int)==9)=false:=by rw [beq_eq_false_iff_ne];omega
     by_cases h32:s[k].toNat=32
     ·have HG:Hid (gapB s[k]=true):=Lib.hid (by rw [hgd];exact decide_eq_true (.inr h32))
      have n32:((s[k].toNat:Int)==32)=true:=by rw [beq_iff_eq];omega
      clear hgd h9 h35 h32
      by_cases hte:t.data.toList=[]
      ·obtain rfl:t=⟨#[]⟩:=by rw [←mkB_list t,hte];rfl
       have HN:Hid (WL=out++fieldsGo [] (said (s.data.toList.drop (k+1)))):=Lib.hid (by rw [←HWL.out,HW.out,HSD.out,show (ByteArray.mk #[]).data.toList=[] from rfl,fieldsGo_skip _ _ HG.out])
       clear hte
       go_wp2
       go_roundw
       case rel=>exact ⟨k+1,⟨#[]⟩,out,by rw [HSL.out];omega,by go_num,rfl,Nat.zero_le _,by omega,hown,by rw [HWL.out];exact HN.out,hnx⟩
       case measure=>simp [intOf];omega
      ·have HN:Hid (WL=(out++[t.data.toList])++fieldsGo [] (said (s.data.toList.drop (k+1)))):=Lib.hid (by rw [←HWL.out,HW.out,HSD.out,fieldsGo_end _ _ _ HG.out hte];simp)
       have ht1:(!t.toList.isEmpty)=true:=by
        rw [ByteArray.toList_eq]
        cases hh:t.data.toList with
        | nil=>exact absurd hh hte
        | cons x r=>rfl
       clear hte
       go_wp2_with (at_builtin;refine wpList_append_own _ rfl _ _ 66 rfl w.heap.size 9 i0 (.string ⟨#[]⟩) 1 16 Tryz.underlying66 HI.out.1 HI.out.2.1 HI.out.2.2.1 HI.out.2.2.2 rfl (by decide) _ _ _ rfl (hown.alloc _) ⟨wr.heap.size,0,none⟩ 1 1 [.string t] rfl rfl (cell_one_new _ _ _) (by intro u hu;simp at hu;subst hu;rfl) (by rw [List.length_map];unfold maxLen;omega) (by rw [List.length_map];omega) (by simp;omega) ?_;intro v' w1 hown' hgrow _)
       go_roundw
       case rel=>exact ⟨k+1,⟨#[]⟩,out++[t.data.toList],by rw [HSL.out];omega,by go_num,rfl,Nat.zero_le _,by simp;omega,by rw [List.map_append,List.map_append,List.length_append];simpa [mkB_list] using hown',by rw [HWL.out];exact HN.out,below_grown (hnx.alloc hsz _) (by simp;omega) (hown.alloc _) hgrow⟩
       case measure=>simp [intOf];omega
     ·have HG:Hid (gapB s[k]=false):=Lib.hid (by rw [hgd];exact decide_eq_false (by omega))
      have n32:((s[k].toNat:Int)==32)=false:=by rw [beq_eq_false_iff_ne];omega
      have HN:Hid (WL=out++fieldsGo (t.data.toList++[s[k]]) (said (s.data.toList.drop (k+1)))):=Lib.hid (by rw [←HWL.out,HW.out,HSD.out,fieldsGo_snoc _ _ _ HG.out])
      obtain ⟨u,hu⟩:∃ u,s.extract k (k+1)=u:=⟨_,rfl⟩
      have hud:u.data.toList=[s[k]]:=by
       rw [←hu,piece_mid,mkB_data,drop_at s k hlt];simp
      have HUD:=Lib.hid hud
      have hus:u.size=1:=by rw [←size_list,hud];rfl
      have HUS:=Lib.hid hus
      have z1:¬ 9223372036854775807 < t.size+u.size:=by omega
      have c1:(0:Int)≤↑k:=by omega
      have c2:(↑k:Int)+1≤↑s.size:=by omega
      clear hgd h9 h35 h32 hud hus
      go_wp2
      go_roundw
      case rel=>exact ⟨k+1,t++u,out,by rw [HSL.out];omega,by go_num,rfl,by rw [←size_list,bytes_add,List.length_append,size_list,size_list,HUS.out];omega,by omega,hown,by rw [HWL.out,bytes_add,HUD.out];exact HN.out,hnx⟩
      case measure=>simp [intOf];omega
  ·have HSD:Hid (said (s.data.toList.drop k)=[]):=Lib.hid (by
    rw [List.drop_eq_nil_of_le (by rw [HSL.out];omega)];rfl)
   by_cases hte:t.data.toList=[]
   ·obtain rfl:t=⟨#[]⟩:=by rw [←mkB_list t,hte];rfl
    have HN:Hid (WL=out):=Lib.hid (by rw [←HWL.out,HW.out,HSD.out];simp [fieldsGo])
    clear hte
    go_wp2
    go_ret
    exact ⟨_,rfl,by rw [HN.out];exact hown,hnx⟩
   ·have HN:Hid (WL=out++[t.data.toList]):=Lib.hid (by rw [←HWL.out,HW.out,HSD.out];simp [fieldsGo,hte])
    have ht1:(!t.toList.isEmpty)=true:=by
     rw [ByteArray.toList_eq]
     cases hh:t.data.toList with
     | nil=>exact absurd hh hte
     | cons x r=>rfl
    clear hte
    go_wp2_with (at_builtin;refine wpList_append_own _ rfl _ _ 66 rfl w.heap.size 9 i0 (.string ⟨#[]⟩) 1 16 Tryz.underlying66 HI.out.1 HI.out.2.1 HI.out.2.2.1 HI.out.2.2.2 rfl (by decide) _ _ _ rfl (hown.alloc _) ⟨wr.heap.size,0,none⟩ 1 1 [.string t] rfl rfl (cell_one_new _ _ _) (by intro u hu;simp at hu;subst hu;rfl) (by rw [List.length_map];unfold maxLen;omega) (by rw [List.length_map];omega) (by simp;omega) ?_;intro v' w1 hown' hgrow _)
    go_ret
    exact ⟨_,rfl,by rw [HN.out];rw [List.map_append,List.map_append,List.length_append];simpa [mkB_list] using hown',below_grown (hnx.alloc hsz _) (by simp;omega) (hown.alloc _) hgrow⟩
end Go.Proofs.YthcpglnmhimepaaGreatDoor
end
section
namespace Go.Proofs.YthcpglnmhimepaaGreatDoor
open Go.RowKit
theorem info_rline2:(Tryz.prog.info? 68).map (fun i=>(i.zero,i.size,i.bytes))=some (some (.agg #[.int .i64 0,.slice none 0 0]),2,32):=by kernel_rfl
def RLinesAt (w:World) (l:List UInt8) (s5 s6 s7 s8:Value) (wr:World):Prop :=
 ∃ (k f n:Nat) (LV:List (Int × Value)) (out:List (Nat × List (List UInt8))),s8=.int .i64 (k:Int)∧s7=.int .i64 (f:Int)∧s6=.int .i64 (n:Int)∧k≤l.length+1∧f≤l.length+1∧n≤k+1∧out.length≤k ∧
   (k≤l.length→f≤k∧linesL l=out++numP (enumL n (linesGo (pieceL l (f,k)) (l.drop k))))∧(k=l.length+1→linesL l=out) ∧
   wr.ownsRow w.heap.size 68 2 s5 LV.length (flatL LV)∧WordsOwn wr w.heap.size 9 LV (asB out)∧Below w.heap.size w wr
theorem own_slice {W:World} {B:Nat} {e:TypeId} {s:Nat} {v:Value} {n:Nat} {xs:List Value} (h:W.ownsRow B e s v n xs):∃ a c,v=.slice a n c:=by
 rcases h.2 with ⟨rfl,rfl⟩ | ⟨g,cap,cur,rfl,_⟩
 ·exact ⟨_,_,rfl⟩
 ·exact ⟨_,_,rfl⟩
theorem numP_cons (n:Nat) (x:List UInt8) (r:List (Nat × List UInt8)):numP ((n,x)::r)=numP [(n,x)]++numP r:=by
 rw [←numP_append];rfl
theorem pieceL_nil (l:List UInt8) (a:Nat):pieceL l (a,a)=[]:=by simp [pieceL]
theorem rl_end (l out:List UInt8) (o:List (Nat × List (List UInt8))) (n f k:Nat) (h:linesL l=o++numP (enumL n (linesGo (pieceL l (f,k)) (l.drop k)))) (hk:l.drop k=10::out) (h1:l.drop (k+1)=out) :
 linesL l=(o++numP [(n,pieceL l (f,k))])++numP (enumL (n+1) (linesGo (pieceL l (k+1,k+1)) (l.drop (k+1)))):=by
 rw [h,hk,h1,pieceL_nil]
 simp only [linesGo,if_true,enumL]
 rw [numP_cons]
 simp
theorem rl_last (l:List UInt8) (o:List (Nat × List (List UInt8))) (n f k:Nat) (h:linesL l=o++numP (enumL n (linesGo (pieceL l (f,k)) (l.drop k)))) (hk:l.drop k=[]) :
 linesL l=o++numP [(n,pieceL l (f,k))]:=by
 rw [h,hk];rfl
def LinesHad (w:World) (L:List (Int × List ByteArray)) (c:Int) (e:Ending) (w':World):Prop :=
 ∃ v LV,e=.returned (.tuple #[v,.int .i64 c])∧w'.ownsRow w.heap.size 68 2 v LV.length (flatL LV)∧WordsOwn w' w.heap.size 9 LV L∧Below w.heap.size w w'
theorem LinesHad.none (w W:World) (h:Below w.heap.size w W) (c:Int):LinesHad w [] c (.returned (.tuple #[.slice none 0 0,.int .i64 c])) W :=
 ⟨_,[],rfl,World.ownsRow_nil _ _ _ _,WordsOwn.nil _ _ _,h⟩
theorem rlines_big (s:ByteArray) (w:World) (h:20000 < s.size) (hs:s.size≤30000) :
 Calls Tryz.prog 18 #[.string s] w (LinesHad w [] 4):=by
 go_enter Tryz.func18,Tryz.ntmps18
 go_wp2
 go_ret2
 exact LinesHad.none w w (Below.refl _ _) 4
set_option maxRecDepth 100000 in
set_option maxHeartbeats 4000000 in
theorem rlines_small (s:ByteArray) (w:World) (hs:s.size≤20000) :
 Calls Tryz.prog 18 #[.string s] w (LinesHad w (asB (if okL s.data.toList then linesL s.data.toList else [])) (if okL s.data.toList then 0 else 5)):=by
 obtain ⟨RV,hRV⟩:∃ RV,asB (if okL s.data.toList then linesL s.data.toList else [])=RV:=⟨_,rfl⟩
 obtain ⟨RE,hRE⟩:∃ RE:Int,(if okL s.data.toList then (0:Int) else 5)=RE:=⟨_,rfl⟩
 rw [hRV,hRE]
 have HRV:=Lib.hid hRV
 have HRE:=Lib.hid hRE
 have HSL:=Lib.hid (size_list s)
 clear hRV hRE
 have HBAD:Hid (okL s.data.toList=false→∀ W,LinesHad W RV RE (.returned (.tuple #[.slice none 0 0,.int .i64 5])) W):=Lib.hid fun hno W=>by
  rw [←HRE.out,←HRV.out,hno]
  exact LinesHad.none W W (Below.refl _ _) _
 have h1:¬ 20000 < s.size:=by omega
 obtain ⟨i0,hi,hz0,hz1,hz2⟩:=info_parts info_rline2
 have HI:=Lib.hid (And.intro hi (And.intro hz0 (And.intro hz1 hz2)))
 clear hi hz0 hz1 hz2
 go_enter Tryz.func18,Tryz.ntmps18
 go_wp2
 go_loop [4] (fun i=>∃ k:Nat,k≤s.size∧i=.int .i64 k∧(s.data.toList.take k).all okB=true) (fun i=>s.size - (intOf i).toNat)
 case atStart=>exact ⟨0,Nat.zero_le _,rfl,rfl⟩
 case round =>
  obtain ⟨k,hk,rfl,hd⟩:=hrel
  have HD:=Lib.hid hd
  clear hd
  by_cases hlt:k < s.size
  ·have HO:=Lib.hid (okB_dec s[k])
   have hb:s[k].toNat < 256:=UInt8.toNat_lt _
   go_wp2
   all_goals first
    | (go_ret2
       exact HBAD.out (all_no okB s k hlt (by rw [HO.out];exact decide_eq_false (by omega))) _)
    | (go_round
       case rel=>exact ⟨k+1,by omega,by go_num,by rw [all_take okB s k hlt,HD.out,HO.out];exact decide_eq_true (by first | omega | (simp only [bne_eq_false_iff_eq] at *;omega))⟩
       case measure=>simp [intOf];omega)
  ·have hok:okL s.data.toList=true:=all_end okB s k hlt hk HD.out
   have HRV':Hid (asB (linesL s.data.toList)=RV):=Lib.hid (by rw [←HRV.out,hok];rfl)
   have HRE':Hid (RE=0):=Lib.hid (by rw [←HRE.out,hok];rfl)
   clear hok
   go_wp2
   go_loopw [5,6,7,8] (fun s5 s6 s7 s8 wr=>RLinesAt w s.data.toList s5 s6 s7 s8 wr) (fun _ _ _ s8 _=>s.size+1 - (intOf s8).toNat)
   case atStart=>exact ⟨0,0,1,[],[],rfl,rfl,rfl,by omega,by omega,by omega,Nat.le_refl _,fun _=>⟨Nat.le_refl _,rfl⟩,fun h=>by omega,World.ownsRow_nil _ _ _ _,WordsOwn.nil _ _ _,Below.refl _ _⟩
   case round =>
    obtain ⟨k2,f,n,LV,out,rfl,rfl,rfl,hk2,hf2,hn2,hol,hgo,hend,hown,hw,hnx⟩:=hrel
    rw [HSL.out] at hk2 hf2 hgo hend
    have hlv:LV.length≤k2:=by rw [hw.1,asB_length];exact hol
    have HGO:=Lib.hid hgo
    have HEN:=Lib.hid hend
    have HOW:=Lib.hid hown
    have HWW:=Lib.hid hw
    have HNX:=Lib.hid hnx
    clear hgo hend hown hw hnx
    by_cases hlast:k2≤s.size
    ·obtain ⟨hfk,hL⟩:=HGO.out hlast
     have HL:=Lib.hid hL
     clear hL
     by_cases hke:k2=s.size
     ·have hdr:s.data.toList.drop k2=[]:=List.drop_eq_nil_of_le (by rw [HSL.out];omega)
      obtain ⟨P,hP⟩:∃ P,pieceL s.data.toList (f,k2)=P:=⟨_,rfl⟩
      have hPx:(s.extract f k2).data.toList=P:=by rw [piece_mid,mkB_data,←hP];rfl
      obtain ⟨x,hx⟩:∃ x,s.extract f k2=x:=⟨_,rfl⟩
      rw [hx] at hPx
      have hxs:x.size≤30000:=by rw [←size_list,hPx,←hP];unfold pieceL;rw [List.length_take,List.length_drop,HSL.out];omega
      have HRW:Hid (∀ W,Calls Tryz.prog 38 #[.string x] W (RWordsPost W (wordsL P))):=Lib.hid fun W=>by
       have:=lrwords_any x W hxs
       rwa [hPx] at this
      have c1:(0:Int)≤↑f:=by omega
      have c2:(↑f:Int)≤↑k2:=by omega
      have c3:(↑k2:Int)≤↑s.size:=by omega
      have HNEW:Hid (linesL s.data.toList=out++numP [(n,P)]):=Lib.hid (by rw [←hP];exact rl_last _ _ _ _ _ HL.out hdr)
      have hkb:((k2:Int)==(s.size:Int))=true:=by rw [beq_iff_eq];omega
      have HKE:=Lib.hid hke
      clear hdr hP hPx hke
      by_cases hpw:wordsL P=[]
      ·have HP1:Hid (numP [(n,P)]=[]):=Lib.hid (by simp [numP,hpw])
       have HPW:Hid (wordsL P=[]):=Lib.hid hpw
       clear hpw
       go_wp2_with fail
       refine (HRW.out _).mono ?_
       rintro e w2 ⟨v,rfl,ho,hb⟩
       obtain ⟨av,cv,rfl⟩:=own_slice ho
       rw [HPW.out]
       simp only [List.map_nil,List.length_nil]
       have HO2:=Lib.hid (row_below HOW.out hb)
       have HW2:=Lib.hid (HWW.out.mono fun u m xs hu=>row_below hu hb)
       have HN2:=Lib.hid (HNX.out.trans (hb.mono HNX.out.size))
       clear ho hb
       go_wp2
       go_roundw
       case rel=>exact ⟨k2+1,k2+1,n+1,LV,out++numP [(n,P)],by go_num,by go_num,by go_num,by rw [HSL.out];omega,by rw [HSL.out];omega,by omega,by rw [HP1.out,List.append_nil];omega,(fun h=>by rw [HSL.out] at h;have:=HKE.out;omega),fun _=>HNEW.out,HO2.out,by rw [HP1.out,List.append_nil];exact HW2.out,HN2.out⟩
       case measure=>simp [intOf];omega
      ·have HP1:Hid (numP [(n,P)]=[(n,wordsL P)]):=Lib.hid (by simp [numP,hpw])
       have hpl:0 < ((wordsL P).map mkB).length:=by rw [List.length_map];exact List.length_pos_iff.2 hpw
       obtain ⟨ws,hws⟩:∃ ws,(wordsL P).map mkB=ws:=⟨_,rfl⟩
       have HWS:=Lib.hid hws
       rw [hws] at hpl
       clear hpw hws
       go_wp2_with fail
       refine (HRW.out _).mono ?_
       rintro e w2 ⟨v,rfl,ho,hb⟩
       rw [HWS.out] at ho
       obtain ⟨av,cv,rfl⟩:=own_slice ho
       have hrow1:=row_below HOW.out hb
       have HW2:=Lib.hid (HWW.out.mono fun u m xs hu=>row_below hu hb)
       have HN2:=Lib.hid (HNX.out.trans (hb.mono HNX.out.size))
       have hsz2:w.heap.size≤w2.heap.size:=HN2.out.size
       have HO9:=Lib.hid (row_base ho HNX.out.size)
       have HR1:=Lib.hid hrow1
       clear ho hb hrow1
       go_wp2_with (at_builtin;refine wpList_append_own _ rfl _ _ 60 rfl w.heap.size 68 i0 (.agg #[.int .i64 0,.slice none 0 0]) 2 32 Tryz.underlying60 HI.out.1 HI.out.2.1 HI.out.2.2.1 HI.out.2.2.2 rfl (by decide) _ _ _ rfl (HR1.out.alloc _) ⟨w2.heap.size,0,none⟩ 1 1 [.int .i64 (n:Int),.slice av ws.length cv] rfl rfl (cell_two_new' _ _ _ _) (by intro u hu;simp at hu;rcases hu with rfl | rfl <;> rfl) (by unfold maxLen;omega) (by omega) (by simp;omega) ?_;intro v' w3 hown' hgrow _)
       have hK9:∀ (u:Value) (m:Nat) (xs:List Value),w2.ownsRow w.heap.size 9 1 u m xs→w3.ownsRow w.heap.size 9 1 u m xs:=fun u m xs hu =>
        (hu.alloc (.cells #[.int .i64 (n:Int),.slice av ws.length cv] 68)).kept hgrow (row_apart HR1.out hu (by decide))
       have HWF:Hid (WordsOwn w3 w.heap.size 9 (LV++[((n:Int),.slice av ws.length cv)]) (asB (out++numP [(n,P)]))):=Lib.hid (by
        rw [HP1.out,asB_append]
        have:asB [(n,wordsL P)]=[((n:Int),ws)]:=by simp [asB,HWS.out]
        rw [this]
        exact (HW2.out.mono hK9).snoc _ _ _ (hK9 _ _ _ HO9.out))
       have HOF:Hid (w3.ownsRow w.heap.size 68 2 v' (LV++[((n:Int),Value.slice av ws.length cv)]).length (flatL (LV++[((n:Int),Value.slice av ws.length cv)]))):=Lib.hid (by
        rw [flatL_snoc,List.length_append];exact hown')
       have HBF:=Lib.hid (below_grown (HN2.out.alloc hsz2 _) (by simp;omega) (HR1.out.alloc _) hgrow)
       clear hK9 hown' hgrow
       go_roundw
       case rel=>exact ⟨k2+1,k2+1,n+1,_,out++numP [(n,P)],by go_num,by go_num,by go_num,by rw [HSL.out];omega,by rw [HSL.out];omega,by omega,by rw [HP1.out];simp;omega,(fun h=>by rw [HSL.out] at h;have:=HKE.out;omega),fun _=>HNEW.out,HOF.out,HWF.out,HBF.out⟩
       case measure=>simp [intOf];omega
     ·have hkl:k2 < s.size:=by omega
      have hkb:((k2:Int)==(s.size:Int))=false:=by rw [beq_eq_false_iff_ne];omega
      have hdr:=drop_at s k2 hkl
      by_cases h10:s[k2].toNat=10
      ·have hc10:s[k2]=10:=UInt8.toNat_inj.1 h10
       rw [hc10] at hdr
       obtain ⟨P,hP⟩:∃ P,pieceL s.data.toList (f,k2)=P:=⟨_,rfl⟩
       have hPx:(s.extract f k2).data.toList=P:=by rw [piece_mid,mkB_data,←hP];rfl
       obtain ⟨x,hx⟩:∃ x,s.extract f k2=x:=⟨_,rfl⟩
       rw [hx] at hPx
       have hxs:x.size≤30000:=by rw [←size_list,hPx,←hP];unfold pieceL;rw [List.length_take,List.length_drop,HSL.out];omega
       have HRW:Hid (∀ W,Calls Tryz.prog 38 #[.string x] W (RWordsPost W (wordsL P))):=Lib.hid fun W=>by
        have:=lrwords_any x W hxs
        rwa [hPx] at this
       have c1:(0:Int)≤↑f:=by omega
       have c2:(↑f:Int)≤↑k2:=by omega
       have c3:(↑k2:Int)≤↑s.size:=by omega
       have HNEW:Hid (linesL s.data.toList=(out++numP [(n,P)])++numP (enumL (n+1) (linesGo (pieceL s.data.toList (k2+1,k2+1)) (s.data.toList.drop (k2+1))))):=Lib.hid (by rw [←hP];exact rl_end _ _ _ _ _ _ HL.out hdr rfl)
       have hb10:((s[k2].toNat:Int)==10)=true:=by rw [beq_iff_eq];omega
       clear hdr hP hPx hke h10 hc10
       by_cases hpw:wordsL P=[]
       ·have HP1:Hid (numP [(n,P)]=[]):=Lib.hid (by simp [numP,hpw])
        have HPW:Hid (wordsL P=[]):=Lib.hid hpw
        clear hpw
        go_wp2_with fail
        refine (HRW.out _).mono ?_
        rintro e w2 ⟨v,rfl,ho,hb⟩
        obtain ⟨av,cv,rfl⟩:=own_slice ho
        rw [HPW.out]
        simp only [List.map_nil,List.length_nil]
        have HO2:=Lib.hid (row_below HOW.out hb)
        have HW2:=Lib.hid (HWW.out.mono fun u m xs hu=>row_below hu hb)
        have HN2:=Lib.hid (HNX.out.trans (hb.mono HNX.out.size))
        clear ho hb
        go_wp2
        go_roundw
        case rel=>exact ⟨k2+1,k2+1,n+1,LV,out++numP [(n,P)],by go_num,by go_num,by go_num,by rw [HSL.out];omega,by rw [HSL.out];omega,by omega,by rw [HP1.out,List.append_nil];omega,fun _=>⟨Nat.le_refl _,HNEW.out⟩,(fun h=>by rw [HSL.out] at h;omega),HO2.out,by rw [HP1.out,List.append_nil];exact HW2.out,HN2.out⟩
        case measure=>simp [intOf];omega
       ·have HP1:Hid (numP [(n,P)]=[(n,wordsL P)]):=Lib.hid (by simp [numP,hpw])
        have hpl:0 < ((wordsL P).map mkB).length:=by rw [List.length_map];exact List.length_pos_iff.2 hpw
        obtain ⟨ws,hws⟩:∃ ws,(wordsL P).map mkB=ws:=⟨_,rfl⟩
        have HWS:=Lib.hid hws
        rw [hws] at hpl
        clear hpw hws
        go_wp2_with fail
        refine (HRW.out _).mono ?_
        rintro e w2 ⟨v,rfl,ho,hb⟩
        rw [HWS.out] at ho
        obtain ⟨av,cv,rfl⟩:=own_slice ho
        have hrow1:=row_below HOW.out hb
        have HW2:=Lib.hid (HWW.out.mono fun u m xs hu=>row_below hu hb)
        have HN2:=Lib.hid (HNX.out.trans (hb.mono HNX.out.size))
        have hsz2:w.heap.size≤w2.heap.size:=HN2.out.size
        have HO9:=Lib.hid (row_base ho HNX.out.size)
        have HR1:=Lib.hid hrow1
        clear ho hb hrow1
        go_wp2_with (at_builtin;refine wpList_append_own _ rfl _ _ 60 rfl w.heap.size 68 i0 (.agg #[.int .i64 0,.slice none 0 0]) 2 32 Tryz.underlying60 HI.out.1 HI.out.2.1 HI.out.2.2.1 HI.out.2.2.2 rfl (by decide) _ _ _ rfl (HR1.out.alloc _) ⟨w2.heap.size,0,none⟩ 1 1 [.int .i64 (n:Int),.slice av ws.length cv] rfl rfl (cell_two_new' _ _ _ _) (by intro u hu;simp at hu;rcases hu with rfl | rfl <;> rfl) (by unfold maxLen;omega) (by omega) (by simp;omega) ?_;intro v' w3 hown' hgrow _)
        have hK9:∀ (u:Value) (m:Nat) (xs:List Value),w2.ownsRow w.heap.size 9 1 u m xs→w3.ownsRow w.heap.size 9 1 u m xs:=fun u m xs hu =>
         (hu.alloc (.cells #[.int .i64 (n:Int),.slice av ws.length cv] 68)).kept hgrow (row_apart HR1.out hu (by decide))
        have HWF:Hid (WordsOwn w3 w.heap.size 9 (LV++[((n:Int),.slice av ws.length cv)]) (asB (out++numP [(n,P)]))):=Lib.hid (by
         rw [HP1.out,asB_append]
         have:asB [(n,wordsL P)]=[((n:Int),ws)]:=by simp [asB,HWS.out]
         rw [this]
         exact (HW2.out.mono hK9).snoc _ _ _ (hK9 _ _ _ HO9.out))
        have HOF:Hid (w3.ownsRow w.heap.size 68 2 v' (LV++[((n:Int),Value.slice av ws.length cv)]).length (flatL (LV++[((n:Int),Value.slice av ws.length cv)]))):=Lib.hid (by
         rw [flatL_snoc,List.length_append];exact hown')
        have HBF:=Lib.hid (below_grown (HN2.out.alloc hsz2 _) (by simp;omega) (HR1.out.alloc _) hgrow)
        clear hK9 hown' hgrow
        go_roundw
        case rel=>exact ⟨k2+1,k2+1,n+1,_,out++numP [(n,P)],by go_num,by go_num,by go_num,by rw [HSL.out];omega,by rw [HSL.out];omega,by omega,by rw [HP1.out];simp;omega,fun _=>⟨Nat.le_refl _,HNEW.out⟩,(fun h=>by rw [HSL.out] at h;omega),HOF.out,HWF.out,HBF.out⟩
        case measure=>simp [intOf];omega
      ·have HNEW:Hid (linesL s.data.toList=out++numP (enumL n (linesGo (pieceL s.data.toList (f,k2+1)) (s.data.toList.drop (k2+1))))):=Lib.hid (by
        rw [HL.out,hdr]
        have hc:s[k2]≠10:=fun e=>h10 (by rw [e];rfl)
        have hpc:pieceL s.data.toList (f,k2)++[s[k2]]=pieceL s.data.toList (f,k2+1):=by
         have:=pieceL_snoc s.data.toList f k2 hfk (by rw [HSL.out];exact hkl)
         rw [←this];rfl
        simp only [linesGo,if_neg hc]
        rw [hpc])
       have hb10:((s[k2].toNat:Int)==10)=false:=by rw [beq_eq_false_iff_ne];omega
       clear hdr hke h10
       go_wp2
       go_roundw
       case rel=>exact ⟨k2+1,f,n,LV,out,by go_num,rfl,rfl,by rw [HSL.out];omega,by rw [HSL.out];omega,by omega,by omega,fun _=>⟨by omega,HNEW.out⟩,(fun h=>by rw [HSL.out] at h;omega),HOW.out,HWW.out,HNX.out⟩
       case measure=>simp [intOf];omega
    ·have hke:k2=s.size+1:=by omega
     have HFIN:Hid (WordsOwn wr w.heap.size 9 LV RV):=Lib.hid (by
      rw [←HRV'.out,HEN.out hke]
      exact HWW.out)
     clear hke
     go_wp2
     go_ret2
     exact ⟨_,LV,by rw [HRE'.out];rfl,HOW.out,HFIN.out,HNX.out⟩
theorem rlines_had (s:ByteArray) (w:World) (hs:s.size≤30000) :
 Calls Tryz.prog 18 #[.string s] w (LinesHad w (asB (linV s.data.toList)) (linE s.data.toList)):=by
 have hl:=size_list s
 by_cases h:20000 < s.size
 ·obtain ⟨e1,e2⟩:=linE_big s.data.toList (by omega)
  rw [e1,e2]
  exact rlines_big s w h hs
 ·have h1:=rlines_small s w (by omega)
  cases ho:okL s.data.toList with
  | false =>
    obtain ⟨e1,e2⟩:=linE_bad s.data.toList (by omega) ho
    rw [e1,e2]
    rwa [ho] at h1
  | true =>
    obtain ⟨e1,e2⟩:=linE_ok s.data.toList (by omega) ho
    rw [e1,e2]
    rwa [ho] at h1
end Go.Proofs.YthcpglnmhimepaaGreatDoor
end
section
namespace Go.Proofs.YthcpglnmhimepaaGreatDoor
open Go.RowKit
theorem lineL_snoc (ws:List ByteArray) (x:ByteArray):lineL (ws++[x])=(if ws=[] then [] else lineL ws++[32])++x.data.toList:=by
 induction ws with
 | nil=>simp [lineL,Lib.join,List.intercalate]
 | cons y r ih =>
   have e:∀ (z:ByteArray) (l:List ByteArray),l≠[]→lineL (z::l)=z.data.toList++([32]++lineL l):=fun z l hl=>by
    cases l with
    | nil=>exact absurd rfl hl
    | cons a b=>simp [lineL,Lib.join,List.intercalate]
   rw [List.cons_append,e y (r++[x]) (by simp),ih]
   cases r with
   | nil=>simp [lineL,Lib.join,List.intercalate]
   | cons a b=>rw [e y (a::b) (by simp)];simp
theorem lineL_length (ws:List ByteArray) (h:∀ y∈ws,y.size≤100):(lineL ws).length≤101 * ws.length:=by
 induction ws with
 | nil=>simp [lineL,Lib.join,List.intercalate]
 | cons y r ih =>
   have h1:=h y (List.mem_cons_self ..)
   have h2:=ih fun z hz=>h z (List.mem_cons_of_mem _ hz)
   have hz:=size_list y
   cases r with
   | nil=>simp [lineL,Lib.join,List.intercalate];omega
   | cons a b =>
     have e:lineL (y::a::b)=y.data.toList++([32]++lineL (a::b)):=by simp [lineL,Lib.join,List.intercalate]
     rw [e]
     simp only [List.length_append,List.length_cons,List.length_nil] at h2 ⊢
     omega
theorem joinL_length (L:List (Int × List ByteArray)) (h:∀ x∈L,x.2.length≤60∧∀ y∈x.2,y.size≤100):(joinL L).length≤6100 * L.length:=by
 induction L with
 | nil=>simp [joinL]
 | cons x r ih =>
   have h1:=h x (List.mem_cons_self ..)
   have h2:=ih fun z hz=>h z (List.mem_cons_of_mem _ hz)
   have h3:=lineL_length x.2 h1.2
   have e:joinL (x::r)=(lineL x.2++[10])++joinL r:=by simp [joinL]
   rw [e]
   simp only [List.length_append,List.length_cons,List.length_nil]
   omega
theorem take_mem {α:Type} {L:List α} {k:Nat} {x:α} (h:x∈L.take k):x∈L:=List.mem_of_mem_take h
def RJoinAt (L:List (Int × List ByteArray)) (s3 s4:Value):Prop :=
 ∃ (i:Nat) (t:ByteArray),i≤L.length∧s4=.int .i64 (i:Int)∧s3=.string t∧t.data.toList=joinL (L.take i)
def RLineAt (T:List UInt8) (ws:List ByteArray) (s3 s5:Value):Prop :=
 ∃ (j:Nat) (t:ByteArray),j≤ws.length∧s5=.int .i64 (j:Int)∧s3=.string t∧t.data.toList=T++lineL (ws.take j)
set_option maxRecDepth 100000 in
set_option maxHeartbeats 2000000 in
theorem rjoin_at (v:Value) (L:List (Int × List ByteArray)) (w:World) (h:LinesV w v L) (f1:L.length≤10000) (f2:∀ x∈L,x.2.length≤60∧∀ y∈x.2,y.size≤100) :
 Calls Tryz.prog 19 #[v] w fun e w'=>e=.returned (.string (mkB (joinL L)))∧w=w':=by
 obtain ⟨a,c,rfl,hm,hc⟩:=h
 have HF2:=Lib.hid f2
 have HC:=Lib.hid hc
 obtain ⟨n,hn⟩:∃ n,L.length=n:=⟨_,rfl⟩
 obtain ⟨R,hR⟩:∃ R,mkB (joinL L)=R:=⟨_,rfl⟩
 rw [hn] at f1 ⊢
 rw [hR]
 have HN:=Lib.hid hn
 have HR:=Lib.hid hR
 clear hc f2 hm hn hR
 go_enter Tryz.func19,Tryz.ntmps19
 go_wp2
 go_loop [3,4] (fun s3 s4=>RJoinAt L s3 s4) (fun _ s4=>n - (intOf s4).toNat)
 case atStart=>exact ⟨0,⟨#[]⟩,Nat.zero_le _,rfl,rfl,rfl⟩
 case round =>
  obtain ⟨i,t,hi,rfl,rfl,ht⟩:=hrel
  rw [HN.out] at hi
  have hb:=joinL_length (L.take i) fun x hx=>HF2.out x (take_mem hx)
  rw [←ht,size_list] at hb
  have hts:t.size≤61000000:=by
   have:(L.take i).length≤10000:=by rw [List.length_take];omega
   omega
  have HT:=Lib.hid ht
  clear ht hb
  by_cases hlt:i < n
  ·have hil:i < L.length:=by rw [HN.out];exact hlt
   obtain ⟨⟨x,ws⟩,hget⟩:∃ y,L[i]?=some y:=⟨_,List.getElem?_eq_getElem hil⟩
   obtain ⟨g1,g2⟩:=HF2.out _ (List.mem_of_getElem? hget)
   dsimp only at g1 g2
   have HTK:Hid (L.take (i+1)=L.take i++[(x,ws)]):=Lib.hid (by rw [take_at L i hil];rw [List.getElem?_eq_getElem hil] at hget;rw [Option.some.inj hget])
   obtain ⟨b1,o1,u1,rfl,d1,d2,s1⟩:=HC.out i _ hget
   obtain ⟨a1,k1,rfl,_,m1,e1⟩:=s1
   dsimp only at d2 e1 m1
   clear hget d1 m1
   have E1:=Lib.hid e1
   have G2:=Lib.hid g2
   obtain ⟨nw,hnw⟩:∃ nw,ws.length=nw:=⟨_,rfl⟩
   rw [hnw] at d2 g1
   have HNW:=Lib.hid hnw
   clear e1 g2 hnw
   go_wp2
   go_loop [3,5] (fun s3 s5=>RLineAt (joinL (L.take i)) ws s3 s5) (fun _ s5=>nw - (intOf s5).toNat)
   case atStart=>exact ⟨0,t,Nat.zero_le _,rfl,rfl,by rw [HT.out];simp [lineL,Lib.join,List.intercalate]⟩
   case round =>
    obtain ⟨j,t2,hj,rfl,rfl,ht2⟩:=hrel
    rw [HNW.out] at hj
    have hb2:=lineL_length (ws.take j) fun y hy=>G2.out y (take_mem hy)
    have hl2:=congrArg List.length ht2
    rw [List.length_append,←HT.out,size_list,size_list] at hl2
    have ht2s:t2.size≤61007000:=by
     have:(ws.take j).length≤60:=by rw [List.length_take];omega
     omega
    have HT2:=Lib.hid ht2
    clear ht2 hb2 hl2
    by_cases hjt:j < nw
    ·have hjl:j < ws.length:=by rw [HNW.out];exact hjt
     obtain ⟨y,hy⟩:∃ y,ws[j]?=some y:=⟨_,List.getElem?_eq_getElem hjl⟩
     obtain ⟨b3,o3,rfl,q1⟩:=E1.out j y hy
     have hys:y.size≤100:=G2.out y (List.mem_of_getElem? hy)
     have HTJ:Hid (ws.take (j+1)=ws.take j++[y]):=Lib.hid (by rw [take_at ws j hjl];rw [List.getElem?_eq_getElem hjl] at hy;rw [Option.some.inj hy])
     clear hy
     by_cases h0:0 < j
     ·have z1:¬ 9223372036854775807 < t2.size+1:=by omega
      have z2:¬ 9223372036854775807 < t2.size+1+y.size:=by omega
      have hne:Hid (ws.take j≠[]):=Lib.hid fun e=>by
       have:=congrArg List.length e
       rw [List.length_take,List.length_nil] at this
       omega
      go_wp2
      go_round
      case rel=>exact ⟨j+1,t2++⟨#[32]⟩++y,by omega,by go_num,rfl,by rw [HTJ.out,lineL_snoc,if_neg hne.out];simp [ByteArray.data_append,HT2.out]⟩
      case measure=>simp [intOf];omega
     ·obtain rfl:j=0:=by omega
      rw [Nat.add_zero] at q1
      have z2:¬ 9223372036854775807 < t2.size+y.size:=by omega
      go_wp2
      go_round
      case rel=>exact ⟨1,t2++y,by omega,by go_num,rfl,by rw [HTJ.out,lineL_snoc];simp [ByteArray.data_append,HT2.out,lineL,Lib.join,List.intercalate]⟩
      case measure=>simp [intOf];omega
    ·have z1:¬ 9223372036854775807 < t2.size+1:=by omega
     have HWT:Hid (ws.take j=ws):=Lib.hid (List.take_of_length_le (by rw [HNW.out];omega))
     go_wp2
     go_round
     case rel=>exact ⟨i+1,t2++⟨#[10]⟩,by omega,by go_num,rfl,by rw [HTK.out,joinL_snoc];simp [ByteArray.data_append,HT2.out,HWT.out]⟩
     case measure=>simp [intOf];omega
  ·have HE:Hid (t=R):=Lib.hid (by
    rw [←HR.out,←mkB_list t,HT.out,List.take_of_length_le (by rw [HN.out];omega)])
   rw [HE.out]
   go_wp2
   go_ret
   exact ⟨rfl,rfl⟩
end Go.Proofs.YthcpglnmhimepaaGreatDoor
end
