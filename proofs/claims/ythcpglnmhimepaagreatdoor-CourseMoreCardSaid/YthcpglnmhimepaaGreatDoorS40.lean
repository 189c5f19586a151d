/- UnitDocParse -/
import Derived.Test.YthcpglnmhimepaaGreatDoorS36
import Derived.Test.YthcpglnmhimepaaGreatDoorS38
namespace Go.Proofs.YthcpglnmhimepaaGreatDoor.Un
open Go.RowKit
theorem spec_plain {c:List Acct} {s:ByteArray} {k:Int} {a:Acct} (hf:findL c s=some a) (hr:rightA a=true):specA (findV (findL c s)) k=plainA c s k:=by
 unfold plainA findV
 rw [hf]
 have hc:=(find_mem hf).1
 simp only [Option.getD_some]
 obtain ⟨co,cl,ca,mu,fi,wo⟩:=a
 dsimp only at hc
 subst hc
 unfold specA
 rw [Bool.eq_iff_iff,decide_eq_true_eq]
 simp only [Bool.and_eq_true,decide_eq_true_eq,Bool.not_eq_true',Acct.mk.injEq,true_and]
 have hm:=marks_ways (right_parts hr).2.2
 dsimp only at hm
 constructor
 ·rintro ⟨⟨⟨h1,h2⟩,h3⟩,h4⟩
  have h5:fi=emp:=by
   by_cases e:fi=emp
   ·exact e
   ·rw [(neB_iff fi).2 e] at h4;cases h4
  refine ⟨h1,h2,h3,h5,?_⟩
  rcases hm with ⟨_,_,_,h⟩ | ⟨_,_,_,h,_⟩ | ⟨_,_,_,h,_⟩ | ⟨_,_,_,h,_⟩ | ⟨_,_,_,h,_⟩
  ·exact h
  ·exact h
  ·exact h
  ·rw [h] at h4;cases h4
  ·rw [h] at h4;cases h4
 ·rintro ⟨h1,h2,h3,h4,_⟩
  exact ⟨⟨⟨h1,h2⟩,h3⟩,by rw [h4];exact neB_empty⟩
theorem allD_eq {l:List (List ByteArray)} {M:Mast} (h:Inv l M):allD M=allE M:=by
 have hs:=h.sane
 have hri:=Fl.rise_codes hs.fl
 have e1:(codesD M).all (fun x=>(findL M.chart x.1).isSome)=rolesN M:=by
  simp only [codesD,rolesN,hasA,List.all_cons,List.all_nil,Bool.and_true]
  cases (findL M.chart M.res).isSome <;> cases (findL M.chart M.min).isSome <;> cases (findL M.chart M.dif).isSome <;> rfl
 have e2:M.lines.all (fun x=>(findL M.chart x.acc).isSome && (Fl.findF M.flows x.flow).isSome)=linesN M:=by
  unfold linesN
  congr 1
  funext x
  unfold lineN hasA
  rw [(isK_find hri x.flow).1]
 have e3:Fl.wholeTo M.flows 5=Fl.wholeF M.flows:=Fl.whole_eq (Fl.rise_ones hs.fl)
 unfold allD allE
 rw [e1,e2,e3]
 by_cases h1:M.cur=emp
 ·rw [if_pos h1,if_pos (by simp [h1])]
 ·rw [if_neg h1]
  cases hr:rolesN M with
  | false=>rw [if_pos rfl,if_pos (by simp)]
  | true =>
    rw [if_neg (by simp)]
    cases hl:linesN M with
    | false=>rw [if_pos rfl,if_pos (by simp)]
    | true =>
      have e4:(codesD M).all (fun x=>specA (findV (findL M.chart x.1)) x.2)=rolesP M:=by
       unfold rolesN hasA at hr
       simp only [Bool.and_eq_true] at hr
       obtain ⟨⟨⟨r1,r2⟩,r3⟩,r4⟩:=hr
       obtain ⟨a1,g1⟩:=Option.isSome_iff_exists.1 r1
       obtain ⟨a2,g2⟩:=Option.isSome_iff_exists.1 r2
       obtain ⟨a3,g3⟩:=Option.isSome_iff_exists.1 r3
       obtain ⟨a4,g4⟩:=Option.isSome_iff_exists.1 r4
       simp only [codesD,rolesP,List.all_cons,List.all_nil,Bool.and_true]
       rw [spec_plain g1 (h.right _ (find_mem g1).2),spec_plain g2 (h.right _ (find_mem g2).2),spec_plain g3 (h.right _ (find_mem g3).2),spec_plain g4 (h.right _ (find_mem g4).2)]
       cases plainA M.chart M.res 2 <;> cases plainA M.chart M.min 2 <;> cases plainA M.chart M.dif 0 <;> rfl
      rw [e4]
      simp [h1]
theorem wp_store_mast {P:Program} {o:Oper} {act:Act} {w:World} {K:Act→World→Prop} {Q:Exit→Act→World→Prop} (ty:TypeId) (x y:Operand) (ho:o.op=.store ty x y)
 (g:Nat) (c0 f0 e0 l0 c f e l:Value) (M0 M:Mast) (t:TypeId) (hx:act.eval x=.pointer (some ⟨g,0,none⟩)) (hy:act.eval y=aggM c f e l M) (hg:BoxM w g t c0 f0 e0 l0 M0) (h1:Ones c f e l) (hi:(P.info? ty).map (·.size)=some 9)
 (h:∀ w',BoxM w' g t c f e l M→w.grownBy w' (some g)→K (act.put o.dst undef) w'):o.wp P act w K Q :=
 wp_store_row ty x y ho g _ hx hy t _ hg hi rfl (by have hs:∀ s,(Value.string s).oneCell'=true:=fun _=>rfl;simp [h1.c,h1.f,h1.e,h1.l,hs]) (h _ (setRow_heap w g _ _ t _ hg) (grownBy_set w g _))
def OffM (gr gm:Nat) (c f e l:Value):Prop:=OffV (fun b=>b≠gm∧b≠gr) c∧OffV (fun b=>b≠gm∧b≠gr) f∧OffV (fun b=>b≠gm∧b≠gr) e∧OffV (fun b=>b≠gm∧b≠gr) l
structure DocAt (w0 wr:World) (gr gm:Nat) (c f e l:Value) (M:Mast):Prop where
 box:BoxM wr gm 36 c f e l M
 res:BoxM wr gr 36 nil4 nil4 nil4 nil4 zeroM
 mast:MastIn wr c f e l M
 off:OffM gr gm c f e l
 bel:Below w0.heap.size w0 wr
 lo:w0.heap.size≤gr∧w0.heap.size≤gm∧gr≠gm
theorem DocAt.below {w0 wr w':World} {gr gm:Nat} {c f e l:Value} {M:Mast} (h:DocAt w0 wr gr gm c f e l M) (hb:Below wr.heap.size wr w'):DocAt w0 w' gr gm c f e l M :=
 ⟨h.box.kept hb,h.res.kept hb,h.mast.keep hb,h.off,h.bel.trans (hb.mono h.bel.size),h.lo⟩
structure NextAt (w0 w3:World) (gr gm gn:Nat) (c f e l c' f' e' l':Value) (M M':Mast) (N:Int):Prop where
 box:BoxM w3 gm 36 c f e l M
 res:BoxM w3 gr 36 nil4 nil4 nil4 nil4 zeroM
 new:BoxM w3 gn 36 c' f' e' l' M'
 mast:N=0→MastIn w3 c' f' e' l' M'
 off:OffM gr gm c' f' e' l'
 ones:Ones c' f' e' l'
 bel:Below w0.heap.size w0 w3
 lo:w0.heap.size≤gr∧w0.heap.size≤gm∧gr≠gm
theorem off4_M {w:World} {gr gm:Nat} {c f e l c' f' e' l':Value} (h:Off4 w c f e l c' f' e' l') (ho:OffM gr gm c f e l) (hr:gr < w.heap.size) (hm:gm < w.heap.size):OffM gr gm c' f' e' l':=by
 have hp:∀ b,w.heap.size≤b→b≠gm∧b≠gr:=fun b hb=>⟨by omega,by omega⟩
 exact ⟨h.1 _ hp ho.1,h.2.1 _ hp ho.2.1,h.2.2.1 _ hp ho.2.2.1,h.2.2.2 _ hp ho.2.2.2⟩
theorem DocAt.call_box {w0 wr w1 w2 w3:World} {gr gm:Nat} {c f e l c' f' e' l':Value} {M M':Mast} {N:Int} (h:DocAt w0 wr gr gm c f e l M) (hb1:Below wr.heap.size wr w1) (hm:N=0→MastIn w2 c' f' e' l' M') (ho:Ones c' f' e' l') (hof:Off4 w1 c f e l c' f' e' l') (hb2:Below w1.heap.size w1 w2)
 (hn:BoxM w3 w2.heap.size 36 c' f' e' l' M') (hb3:Below w2.heap.size w2 w3):NextAt w0 w3 gr gm w2.heap.size c f e l c' f' e' l' M M' N:=by
 have h1:=((h.below hb1).below hb2).below hb3
 exact ⟨h1.box,h1.res,hn,fun h0=>(hm h0).keep hb3,off4_M hof h.off (h.res.kept hb1).lt (h.box.kept hb1).lt,ho,h1.bel,h.lo⟩
theorem DocAt.box_call {w0 wr w1 w2 w3:World} {gr gm g:Nat} {c f e l c' f' e' l':Value} {M M':Mast} {N:Int} (h:DocAt w0 wr gr gm c f e l M) (hg0:wr.heap.size≤g) (hg1:g < w1.heap.size) (hb1:Below wr.heap.size wr w1) (hm:N=0→MastIn w2 c' f' e' l' M') (ho:Ones c' f' e' l') (hof:Off4 w1 c f e l c' f' e' l') (hb2:Below w1.heap.size w1 w2)
 (hn:BoxM w3 g 36 c' f' e' l' M') (hg:w2.grownBy w3 (some g)):NextAt w0 w3 gr gm g c f e l c' f' e' l' M M' N:=by
 have h1:=(h.below hb1).below hb2
 have hgm:=h.box.lt
 have hgr:=h.res.lt
 have hP:=off_of_mast (P:=fun b=>b≠g) h.mast (fun b hb e0=>by omega)
 have hp:∀ b,w1.heap.size≤b→b≠g:=fun b hb e0=>by omega
 have k:∀ j,j < w2.heap.size→j≠g→w3.heap[j]?=w2.heap[j]?:=fun j hj hne=>hg.block j hj (fun e0=>hne (Option.some.inj e0))
 refine ⟨(k _ h1.box.lt (by omega)).trans h1.box,(k _ h1.res.lt (by omega)).trans h1.res,hn,fun h0=>?_,off4_M hof h.off (h.res.kept hb1).lt (h.box.kept hb1).lt,ho,?_,h.lo⟩
 ·exact mast_off (hm h0) (hof.1 _ hp hP.1) (hof.2.1 _ hp hP.2.1) (hof.2.2.1 _ hp hP.2.2.1) (hof.2.2.2 _ hp hP.2.2.2) (fun b hb hlt=>k b hlt hb)
 ·exact h1.bel.grown hg h1.bel.size (fun j hj=>by cases hj;have:=h.bel.size;omega)
theorem NextAt.stored {w0 w3 w4:World} {gr gm gn:Nat} {c f e l c' f' e' l':Value} {M M':Mast} {N:Int} (h:NextAt w0 w3 gr gm gn c f e l c' f' e' l' M M' N) (h0:N=0) (hb:BoxM w4 gm 36 c' f' e' l' M') (hg:w3.grownBy w4 (some gm)):DocAt w0 w4 gr gm c' f' e' l' M':=by
 have k:∀ j,j < w3.heap.size→j≠gm→w4.heap[j]?=w3.heap[j]?:=fun j hj hne=>hg.block j hj (fun e0=>hne (Option.some.inj e0))
 refine ⟨hb,(k _ h.res.lt h.lo.2.2).trans h.res,?_,h.off,?_,h.lo⟩
 ·exact mast_off (h.mast h0) h.off.1 h.off.2.1 h.off.2.2.1 h.off.2.2.2 (fun b hb hlt=>k b hlt hb.1)
 ·exact h.bel.grown hg h.bel.size (fun j hj=>by cases hj;exact h.lo.2.1)
theorem DocAt.result {w0 w3 w4:World} {gr gm:Nat} {c f e l:Value} {M:Mast} (h:DocAt w0 w3 gr gm c f e l M) (hg:w3.grownBy w4 (some gr)):MastIn w4 c f e l M∧Below w0.heap.size w0 w4:=by
 have k:∀ j,j < w3.heap.size→j≠gr→w4.heap[j]?=w3.heap[j]?:=fun j hj hne=>hg.block j hj (fun e0=>hne (Option.some.inj e0))
 exact ⟨mast_off h.mast h.off.1 h.off.2.1 h.off.2.2.1 h.off.2.2.2 (fun b hb hlt=>k b hlt hb.2),h.bel.grown hg h.bel.size (fun j hj=>by cases hj;exact h.lo.1)⟩
set_option maxRecDepth 100000 in
set_option maxHeartbeats 16000000 in
theorem rparseU_any (s:ByteArray) (w:World) (hs:s.size≤30000) :
 Calls Tryz.prog 22 #[.string s] w (MastTold w (parseM s).1 (parseM s).2):=by
 have hb0:=(Below.refl w.heap.size w).alloc (Nat.le_refl _) (.cells #[.slice none 0 0,.slice none 0 0,.slice none 0 0,.slice none 0 0,.string ⟨#[]⟩,.string ⟨#[]⟩,.string ⟨#[]⟩,.string ⟨#[]⟩,.string ⟨#[]⟩] 36)
 have hx0:BoxM (w.alloc (.cells #[.slice none 0 0,.slice none 0 0,.slice none 0 0,.slice none 0 0,.string ⟨#[]⟩,.string ⟨#[]⟩,.string ⟨#[]⟩,.string ⟨#[]⟩,.string ⟨#[]⟩] 36)) w.heap.size 36 nil4 nil4 nil4 nil4 zeroM:=heap_alloc_new w _
 obtain ⟨W0,hW0⟩:∃ W0,w.alloc (.cells #[.slice none 0 0,.slice none 0 0,.slice none 0 0,.slice none 0 0,.string ⟨#[]⟩,.string ⟨#[]⟩,.string ⟨#[]⟩,.string ⟨#[]⟩,.string ⟨#[]⟩] 36)=W0:=⟨_,rfl⟩
 rw [hW0] at hb0 hx0
 have HB0:=Lib.hid hb0
 have HX0:=Lib.hid hx0
 have HLN:=Lib.hid (fun W=>rlines_had s W hs)
 have HWP:=Lib.hid (words_pos s)
 have hpm:parseM s=if linE s.data.toList=0 then linesM (wordsT s) else (zeroM,linE s.data.toList):=rfl
 have hinv:∀ M,runM zeroM (wordsT s)=(M,0)→allD M=allE M:=fun M h=>allD_eq (run_zero_of h)
 obtain ⟨L,hL⟩:∃ L,asB (linV s.data.toList)=L:=⟨_,rfl⟩
 have hWT:wordsT s=L.map (·.2):=by unfold wordsT;rw [hL]
 rw [hWT] at hpm HWP hinv
 have HINV:=Lib.hid hinv
 have hLL:L.length≤30001:=by
  rw [←hL,asB_length]
  unfold linV
  split
  ·simp
  ·split
   ·unfold linesL
    have h1:=numP_length (enumL 1 (linesGo [] s.data.toList))
    rw [enumL_length] at h1
    have h2:=linesGo_length [] s.data.toList
    rw [size_list] at h2
    omega
   ·simp
 obtain ⟨e0,he0⟩:∃ e0,linE s.data.toList=e0:=⟨_,rfl⟩
 rw [he0] at hpm HLN
 rw [hL] at HLN
 obtain ⟨PM,hPM⟩:∃ PM,(parseM s).1=PM:=⟨_,rfl⟩
 obtain ⟨PE,hPE⟩:∃ PE,(parseM s).2=PE:=⟨_,rfl⟩
 rw [hPM,hPE]
 have HPR:Hid ((PM,PE)=if e0=0 then linesM (L.map (·.2)) else (zeroM,e0)):=Lib.hid (by rw [←hpm,←hPM,←hPE])
 clear hpm hL hWT he0 hPM hPE hb0 hx0 hinv hs
 go_enter Tryz.func22,Tryz.ntmps22
 go_wp2_with fail
 refine (HLN.out _).mono ?_
 intro en w2 hlh
 obtain ⟨v2,rfl,hh2,hb2⟩:=had_of hlh
 have HX2:=Lib.hid (HX0.out.kept hb2)
 have HB2:=Lib.hid (HB0.out.trans (hb2.mono HB0.out.size))
 obtain ⟨p,cp,e2,hm2,hc2⟩:=hh2.lines
 subst e2
 have HC:=Lib.hid hc2
 obtain ⟨n,hn⟩:∃ n,L.length=n:=⟨_,rfl⟩
 rw [hn] at hLL hm2 ⊢
 have HN:=Lib.hid hn
 clear hlh hh2 hb2 hc2 hn hW0 HLN
 by_cases h0:e0=0
 ·subst h0
  have HPR2:Hid ((PM,PE)=linesM (L.map (·.2))):=Lib.hid (by rw [HPR.out,if_pos rfl])
  clear HPR
  have hb3:=(Below.refl w2.heap.size w2).alloc (Nat.le_refl _) (.cells #[.slice none 0 0,.slice none 0 0,.slice none 0 0,.slice none 0 0,.string ⟨#[]⟩,.string ⟨#[]⟩,.string ⟨#[]⟩,.string ⟨#[]⟩,.string ⟨#[]⟩] 36)
  have hx3:BoxM (w2.alloc (.cells #[.slice none 0 0,.slice none 0 0,.slice none 0 0,.slice none 0 0,.string ⟨#[]⟩,.string ⟨#[]⟩,.string ⟨#[]⟩,.string ⟨#[]⟩,.string ⟨#[]⟩] 36)) w2.heap.size 36 nil4 nil4 nil4 nil4 zeroM:=heap_alloc_new w2 _
  have hoff:OffV (fun b=>b≠w2.heap.size∧b≠w.heap.size) nil4:=fun _ _ _ e=>by cases e
  have HST:Hid (∃ c f e k M,DocAt w (w2.alloc (.cells #[.slice none 0 0,.slice none 0 0,.slice none 0 0,.slice none 0 0,.string ⟨#[]⟩,.string ⟨#[]⟩,.string ⟨#[]⟩,.string ⟨#[]⟩,.string ⟨#[]⟩] 36)) w.heap.size w2.heap.size c f e k M∧Sane M∧runM zeroM (L.map (·.2))=runM M ((L.map (·.2)).drop 0)) :=
   Lib.hid ⟨nil4,nil4,nil4,nil4,zeroM,⟨hx3,HX2.out.kept hb3,MastIn.zero _,⟨hoff,hoff,hoff,hoff⟩,HB2.out.trans (hb3.mono HB2.out.size),⟨Nat.le_refl _,HB2.out.size,by have:=HX2.out.lt;omega⟩⟩,Sane.zero,rfl⟩
  have HBL:Hid (Below w2.heap.size w2 (w2.alloc (.cells #[.slice none 0 0,.slice none 0 0,.slice none 0 0,.slice none 0 0,.string ⟨#[]⟩,.string ⟨#[]⟩,.string ⟨#[]⟩,.string ⟨#[]⟩,.string ⟨#[]⟩] 36))):=Lib.hid hb3
  clear hb3 hx3 hoff
  go_wp2
  go_loopw [7] (fun s7 wr=>∃ i:Nat,i≤n∧s7=.int .i64 (i:Int)∧Hid (∃ c f e k M,DocAt w wr w.heap.size w2.heap.size c f e k M∧Sane M∧runM zeroM (L.map (·.2))=runM M ((L.map (·.2)).drop i))∧Hid (Below w2.heap.size w2 wr)) (fun s7 _=>n - (intOf s7).toNat)
  case atStart=>exact ⟨0,Nat.zero_le _,rfl,HST,HBL⟩
  case round =>
   obtain ⟨i,hi,rfl,HPA,HBR⟩:=hrel
   obtain ⟨c,f,e,k,M,hd,hsn,hru⟩:=HPA.out
   have HD0:=Lib.hid hd
   have HSN:=Lib.hid hsn
   have HRU:=Lib.hid hru
   clear hd hsn hru HPA HST HBL
   by_cases hlt:i < n
   ·obtain ⟨⟨ln,ws⟩,hx⟩:∃ x,L[i]?=some x:=⟨_,List.getElem?_eq_getElem (by rw [HN.out];exact hlt)⟩
    obtain ⟨b,o,u,rfl,d0,d1,hu⟩:=HC.out i _ hx
    dsimp only at d0 d1 hu
    have hwx:(L.map (·.2))[i]?=some ws:=by rw [List.getElem?_map,hx];rfl
    have HWX:=Lib.hid hwx
    have HW0:=Lib.hid (HWP.out ws (List.mem_of_getElem? hwx))
    have HU:=Lib.hid (hu.keep HBR.out)
    obtain ⟨pu,cu,eu,_⟩:=hu
    subst eu
    have y1:=cell_later HBR.out d1
    obtain ⟨nw,hnw⟩:∃ nw,ws.length=nw:=⟨_,rfl⟩
    rw [hnw] at y1 HU
    obtain ⟨k0,k1,k2,k3,k4,k5,k6,k7,k8⟩:=HD0.out.box.nine
    have r0:=fun p:Past wr=>cell_past k0 p
    have r1:=fun p:Past wr=>cell_past k1 p
    have r2:=fun p:Past wr=>cell_past k2 p
    have r3:=fun p:Past wr=>cell_past k3 p
    have r4:=fun p:Past wr=>cell_past k4 p
    have r5:=fun p:Past wr=>cell_past k5 p
    have r6:=fun p:Past wr=>cell_past k6 p
    have r7:=fun p:Past wr=>cell_past k7 p
    have r8:=fun p:Past wr=>cell_past k8 p
    have r9:=fun p:Past wr=>cell_past y1 p
    have HRC:=Lib.hid (fun W (hW:Below wr.heap.size wr W)=>rone_any (.slice pu nw cu) c f e k ws M W (HD0.out.mast.keep hW) HSN.out (HU.out.keep hW) HW0.out)
    obtain ⟨N,hN⟩:∃ N,stepE M ws=N:=⟨_,rfl⟩
    unfold OneTold at HRC
    rw [hN] at HRC
    have HNE:=Lib.hid hN
    clear hx hwx d0 d1 hnw y1 k0 k1 k2 k3 k4 k5 k6 k7 k8 hN
    go_wp2_with fail
    refine wp_region_plan (.two [0,1,2,3,4,5] 6 (.one [7,8,9] 10 (.one [] 11 (.last [12]))) 10 (.one [] 6 (.one [7,8,9] 11 (.last [12])))) (by kernel_rfl) (by kernel_rfl) (fun d _ _ _ _ h=>by cases d <;> exact h) ?_
    obtain ⟨wq,hwq⟩:∃ wq,wr.drew=wq:=⟨_,rfl⟩
    rw [hwq]
    have HD:Hid (Below wr.heap.size wr wq):=Lib.hid (by rw [←hwq];exact ⟨rfl,rfl,rfl,Nat.le_refl _,fun _ _=>rfl⟩)
    clear hwq
    simp only [wpPlan,pick,nth]
    repeat (go_big_quiet_step (fail))
    refine wpQuiet_nil ?_
    clear r0 r1 r2 r3 r4 r5 r6 r7 r8 r9
    refine ⟨?_,?_⟩
    ·intro K hK
     refine alone_want (by kernel_rfl) ?_
     go_big_op
     refine (HRC.out wq HD.out).mono ?_
     rintro en w3 ⟨c',f',e',k',M',rfl,hz,ho,hof,hb3⟩
     have HP3:=Lib.hid (HD.out.trans (hb3.mono HD.out.size))
     have HZ:Hid (N=0→M'=stepV M ws):=Lib.hid (fun h0=>(hz h0).1)
     have HZM:Hid (N=0→MastIn w3 c' f' e' k' M'):=Lib.hid (fun h0=>(hz h0).2)
     have HO:=Lib.hid ho
     have HOF:=Lib.hid hof
     have HB3:=Lib.hid hb3
     clear hz ho hof hb3
     refine hK _ _ (past_in HP3.out) ?_
     clear hK K
     repeat (go_big_quiet_step (fail))
     refine wpQuiet_nil ?_
     intro K hK
     refine alone_want (by kernel_rfl) ?_
     go_big_op
     have HA4:=Lib.hid ((Below.refl w3.heap.size w3).alloc (Nat.le_refl _) (.cells #[.slice none 0 0,.slice none 0 0,.slice none 0 0,.slice none 0 0,.string ⟨#[]⟩,.string ⟨#[]⟩,.string ⟨#[]⟩,.string ⟨#[]⟩,.string ⟨#[]⟩] 36))
     have HP4:=Lib.hid (HP3.out.trans (HA4.out.mono HP3.out.size))
     have hx4:BoxM (w3.alloc (.cells #[.slice none 0 0,.slice none 0 0,.slice none 0 0,.slice none 0 0,.string ⟨#[]⟩,.string ⟨#[]⟩,.string ⟨#[]⟩,.string ⟨#[]⟩,.string ⟨#[]⟩] 36)) w3.heap.size 36 nil4 nil4 nil4 nil4 zeroM:=heap_alloc_new w3 _
     refine hK _ _ (past_in HP4.out) ?_
     clear hK K
     refine wpQuiet_nil ?_
     intro K hK
     refine alone_want (by kernel_rfl) ?_
     refine wp_store_mast 36 (.tmp 8) (.tmp 34) rfl w3.heap.size nil4 nil4 nil4 nil4 c' f' e' k' zeroM M' 36 rfl rfl hx4 HO.out (by kernel_rfl) ?_
     intro w5 hb5 hg5
     have HG5:=Lib.hid (HA4.out.grown hg5 HA4.out.size (fun j hj=>by cases hj;exact Nat.le_refl _))
     have HNX:=Lib.hid (HD0.out.call_box HD.out HZM.out HO.out HOF.out HB3.out hb5 HG5.out)
     have HP5:=Lib.hid (HP3.out.trans (HG5.out.mono HP3.out.size))
     have HBN:=Lib.hid (HBR.out.trans (HP5.out.mono HBR.out.size))
     clear hb5 hg5 hx4
     refine hK _ _ (past_in HP5.out) ?_
     clear hK K
     simp only [Act.put]
     repeat (go_big_quiet_step (fail))
     refine wpQuiet_nil ?_
     have HDR:Hid ((L.map (·.2)).drop i=ws::(L.map (·.2)).drop (i+1)):=Lib.hid (by
      have hlt':=(List.getElem?_eq_some_iff.1 HWX.out).1
      rw [List.drop_eq_getElem_cons hlt',(List.getElem?_eq_some_iff.1 HWX.out).2])
     by_cases hN0:N=0
     ·subst hN0
      obtain ⟨z0,z1,z2,z3,z4,z5,z6,z7,z8⟩:=HNX.out.new.nine
      go_wp2_with (refine wpList_store_mast rfl 36 (.tmp 6) (.tmp 40) rfl w2.heap.size c f e k c' f' e' k' M M' 36 rfl rfl HNX.out.box HNX.out.ones (by kernel_rfl) ?_;intro w6 hb6 hg6;have HDN:=Lib.hid (HNX.out.stored rfl hb6 hg6);have HBW:=Lib.hid (HBN.out.grown hg6 HBN.out.size (fun j hj=>by cases hj;exact Nat.le_refl _));clear hb6 hg6 z0 z1 z2 z3 z4 z5 z6 z7 z8)
      have HNN:Hid (∃ c f e k M,DocAt w w6 w.heap.size w2.heap.size c f e k M∧Sane M∧runM zeroM (L.map (·.2))=runM M ((L.map (·.2)).drop (i+1))):=Lib.hid (by
       have hst:M'=stepV M ws:=HZ.out rfl
       refine ⟨_,_,_,_,_,HDN.out,?_,?_⟩
       ·rw [hst];exact HSN.out.step HNE.out
       ·rw [HRU.out,HDR.out,runM_cons _ _ _ HNE.out,hst])
      go_roundw
      case rel=>exact ⟨i+1,by omega,by go_num,HNN,HBW⟩
      case measure=>simp [intOf];omega
     ·have HPF:Hid (PM=zeroM∧PE=N):=Lib.hid (by
       have h1:=HPR2.out
       unfold linesM at h1
       rw [HRU.out,HDR.out,runM_stop _ _ _ (by rw [HNE.out];exact hN0),endM_stop _ (by rw [HNE.out];exact hN0),HNE.out] at h1
       exact Prod.mk.inj h1)
      have hNz:(N != 0)=true:=by simp [hN0]
      go_wp2_with (refine wpList_store_mast rfl 36 (.tmp 2) (.tmp 38) rfl w.heap.size nil4 nil4 nil4 nil4 nil4 nil4 nil4 nil4 zeroM zeroM 36 rfl rfl HNX.out.res ones_nil (by kernel_rfl) ?_;intro w6 hb6 hg6)
      have HBG:=Lib.hid (HNX.out.bel.grown hg6 HNX.out.bel.size (fun j hj=>by cases hj;exact Nat.le_refl _))
      obtain ⟨c0,c1,c2,c3,c4,c5,c6,c7,c8⟩:=hb6.nine
      have HZZ:=Lib.hid (MastIn.zero w6)
      clear hb6 hg6
      refine bodyPost_ret (v:=.tuple #[aggM nil4 nil4 nil4 nil4 zeroM,.int .i64 N]) (by simp [results,Tryz.results22,go_sem,c0,c1,c2,c3,c4,c5,c6,c7,c8]) rfl ⟨_,by rw [HPF.out.2],?_,HBG.out⟩
      rw [HPF.out.1]
      exact ⟨_,_,_,_,rfl,HZZ.out⟩
    ·intro K hK
     refine alone_want (by kernel_rfl) ?_
     go_big_op
     have HA2:=Lib.hid (HD.out.alloc HD.out.size (.cells #[.slice none 0 0,.slice none 0 0,.slice none 0 0,.slice none 0 0,.string ⟨#[]⟩,.string ⟨#[]⟩,.string ⟨#[]⟩,.string ⟨#[]⟩,.string ⟨#[]⟩] 36))
     have hx2:BoxM (wq.alloc (.cells #[.slice none 0 0,.slice none 0 0,.slice none 0 0,.slice none 0 0,.string ⟨#[]⟩,.string ⟨#[]⟩,.string ⟨#[]⟩,.string ⟨#[]⟩,.string ⟨#[]⟩] 36)) wq.heap.size 36 nil4 nil4 nil4 nil4 zeroM:=heap_alloc_new wq _
     have HX4:=Lib.hid hx2
     have HQ1:Hid (wr.heap.size≤wq.heap.size):=Lib.hid HD.out.size
     refine hK _ _ (past_in HA2.out) ?_
     clear hK K hx2
     refine wpQuiet_nil ?_
     intro K hK
     refine alone_want (by kernel_rfl) ?_
     go_big_op
     refine (HRC.out _ HA2.out).mono ?_
     rintro en w3 ⟨c',f',e',k',M',rfl,hz,ho,hof,hb3⟩
     have HP3:=Lib.hid (HA2.out.trans (hb3.mono HA2.out.size))
     have HZ:Hid (N=0→M'=stepV M ws):=Lib.hid (fun h0=>(hz h0).1)
     have HZM:Hid (N=0→MastIn w3 c' f' e' k' M'):=Lib.hid (fun h0=>(hz h0).2)
     have HO:=Lib.hid ho
     have HOF:=Lib.hid hof
     have HB3:=Lib.hid hb3
     have HX5:=Lib.hid (HX4.out.kept hb3)
     clear hz ho hof hb3
     refine hK _ _ (past_in HP3.out) ?_
     clear hK K
     repeat (go_big_quiet_step (fail))
     refine wpQuiet_nil ?_
     intro K hK
     refine alone_want (by kernel_rfl) ?_
     refine wp_store_mast 36 (.tmp 8) (.tmp 34) rfl wq.heap.size nil4 nil4 nil4 nil4 c' f' e' k' zeroM M' 36 rfl rfl HX5.out HO.out (by kernel_rfl) ?_
     intro w5 hb5 hg5
     have HNX:=Lib.hid (HD0.out.box_call HQ1.out HX4.out.lt HA2.out HZM.out HO.out HOF.out HB3.out hb5 hg5)
     have HP5:=Lib.hid (HP3.out.grown hg5 HP3.out.size (fun j hj=>by cases hj;exact HQ1.out))
     have HBN:=Lib.hid (HBR.out.trans (HP5.out.mono HBR.out.size))
     clear hb5 hg5
     refine hK _ _ (past_in HP5.out) ?_
     clear hK K
     simp only [Act.put]
     repeat (go_big_quiet_step (fail))
     refine wpQuiet_nil ?_
     have HDR:Hid ((L.map (·.2)).drop i=ws::(L.map (·.2)).drop (i+1)):=Lib.hid (by
      have hlt':=(List.getElem?_eq_some_iff.1 HWX.out).1
      rw [List.drop_eq_getElem_cons hlt',(List.getElem?_eq_some_iff.1 HWX.out).2])
     by_cases hN0:N=0
     ·subst hN0
      obtain ⟨z0,z1,z2,z3,z4,z5,z6,z7,z8⟩:=HNX.out.new.nine
      go_wp2_with (refine wpList_store_mast rfl 36 (.tmp 6) (.tmp 40) rfl w2.heap.size c f e k c' f' e' k' M M' 36 rfl rfl HNX.out.box HNX.out.ones (by kernel_rfl) ?_;intro w6 hb6 hg6;have HDN:=Lib.hid (HNX.out.stored rfl hb6 hg6);have HBW:=Lib.hid (HBN.out.grown hg6 HBN.out.size (fun j hj=>by cases hj;exact Nat.le_refl _));clear hb6 hg6 z0 z1 z2 z3 z4 z5 z6 z7 z8)
      have HNN:Hid (∃ c f e k M,DocAt w w6 w.heap.size w2.heap.size c f e k M∧Sane M∧runM zeroM (L.map (·.2))=runM M ((L.map (·.2)).drop (i+1))):=Lib.hid (by
       have hst:M'=stepV M ws:=HZ.out rfl
       refine ⟨_,_,_,_,_,HDN.out,?_,?_⟩
       ·rw [hst];exact HSN.out.step HNE.out
       ·rw [HRU.out,HDR.out,runM_cons _ _ _ HNE.out,hst])
      go_roundw
      case rel=>exact ⟨i+1,by omega,by go_num,HNN,HBW⟩
      case measure=>simp [intOf];omega
     ·have HPF:Hid (PM=zeroM∧PE=N):=Lib.hid (by
       have h1:=HPR2.out
       unfold linesM at h1
       rw [HRU.out,HDR.out,runM_stop _ _ _ (by rw [HNE.out];exact hN0),endM_stop _ (by rw [HNE.out];exact hN0),HNE.out] at h1
       exact Prod.mk.inj h1)
      have hNz:(N != 0)=true:=by simp [hN0]
      go_wp2_with (refine wpList_store_mast rfl 36 (.tmp 2) (.tmp 38) rfl w.heap.size nil4 nil4 nil4 nil4 nil4 nil4 nil4 nil4 zeroM zeroM 36 rfl rfl HNX.out.res ones_nil (by kernel_rfl) ?_;intro w6 hb6 hg6)
      have HBG:=Lib.hid (HNX.out.bel.grown hg6 HNX.out.bel.size (fun j hj=>by cases hj;exact Nat.le_refl _))
      obtain ⟨c0,c1,c2,c3,c4,c5,c6,c7,c8⟩:=hb6.nine
      have HZZ:=Lib.hid (MastIn.zero w6)
      clear hb6 hg6
      refine bodyPost_ret (v:=.tuple #[aggM nil4 nil4 nil4 nil4 zeroM,.int .i64 N]) (by simp [results,Tryz.results22,go_sem,c0,c1,c2,c3,c4,c5,c6,c7,c8]) rfl ⟨_,by rw [HPF.out.2],?_,HBG.out⟩
      rw [HPF.out.1]
      exact ⟨_,_,_,_,rfl,HZZ.out⟩
   ·have HRN:Hid (runM zeroM (L.map (·.2))=(M,0)):=Lib.hid (by
     rw [HRU.out,List.drop_eq_nil_of_le (by rw [List.length_map,HN.out];omega)];rfl)
    have HPF:Hid ((PM,PE)=endM (M,0)):=Lib.hid (by rw [HPR2.out];unfold linesM;rw [HRN.out])
    have HCK:=Lib.hid (rall_any c f e k M wr HD0.out.mast (by have:=HSN.out.lf;omega))
    rw [HINV.out M HRN.out] at HCK
    obtain ⟨A,hA⟩:∃ A,allE M=A:=⟨_,rfl⟩
    rw [hA] at HCK
    have HA:=Lib.hid hA
    obtain ⟨c0,c1,c2,c3,c4,c5,c6,c7,c8⟩:=HD0.out.box.nine
    have HO:=Lib.hid (ones_of HD0.out.mast)
    clear hA
    go_wp2_with fail
    clear c0 c1 c2 c3 c4 c5 c6 c7 c8
    refine HCK.out.mono ?_
    rintro en w3 ⟨rfl,hb3⟩
    have HD3:=Lib.hid (HD0.out.below hb3)
    clear hb3
    by_cases hA0:A=0
    ·subst hA0
     have HPG:Hid (PM=M∧PE=0):=Lib.hid (by
      have h1:=HPF.out
      rw [endM_ok _ HA.out] at h1
      exact Prod.mk.inj h1)
     obtain ⟨c0,c1,c2,c3,c4,c5,c6,c7,c8⟩:=HD3.out.box.nine
     go_wp2_with (refine wpList_store_mast rfl 36 (.tmp 2) (.tmp 47) rfl w.heap.size nil4 nil4 nil4 nil4 c f e k zeroM M 36 rfl rfl HD3.out.res HO.out (by kernel_rfl) ?_;intro w4 hb4 hg4)
     clear c0 c1 c2 c3 c4 c5 c6 c7 c8
     have HRS:=Lib.hid (HD3.out.result hg4)
     obtain ⟨c0,c1,c2,c3,c4,c5,c6,c7,c8⟩:=hb4.nine
     clear hb4 hg4
     refine bodyPost_ret (v:=.tuple #[aggM c f e k M,.int .i64 0]) (by simp [results,Tryz.results22,go_sem,c0,c1,c2,c3,c4,c5,c6,c7,c8]) rfl ⟨_,by rw [HPG.out.2],?_,HRS.out.2⟩
     rw [HPG.out.1]
     exact ⟨_,_,_,_,rfl,HRS.out.1⟩
    ·have HPG:Hid (PM=zeroM∧PE=A):=Lib.hid (by
      have h1:=HPF.out
      rw [endM_no _ (by rw [HA.out];exact hA0),HA.out] at h1
      exact Prod.mk.inj h1)
     have hAz:(A != 0)=true:=by simp [hA0]
     go_wp2_with (refine wpList_store_mast rfl 36 (.tmp 2) (.tmp 45) rfl w.heap.size nil4 nil4 nil4 nil4 nil4 nil4 nil4 nil4 zeroM zeroM 36 rfl rfl HD3.out.res ones_nil (by kernel_rfl) ?_;intro w4 hb4 hg4)
     have HRS:=Lib.hid (HD3.out.result hg4)
     obtain ⟨c0,c1,c2,c3,c4,c5,c6,c7,c8⟩:=hb4.nine
     have HZ:=Lib.hid (MastIn.zero w4)
     clear hb4 hg4
     refine bodyPost_ret (v:=.tuple #[aggM nil4 nil4 nil4 nil4 zeroM,.int .i64 A]) (by simp [results,Tryz.results22,go_sem,c0,c1,c2,c3,c4,c5,c6,c7,c8]) rfl ⟨_,by rw [HPG.out.2],?_,HRS.out.2⟩
     rw [HPG.out.1]
     exact ⟨_,_,_,_,rfl,HZ.out⟩
 ·have HPF:Hid (PM=zeroM∧PE=e0):=Lib.hid (by
   have h1:=HPR.out
   rw [if_neg h0] at h1
   exact Prod.mk.inj h1)
  have h0z:(e0 != 0)=true:=by simp [h0]
  go_wp2_with (refine wpList_store_mast rfl 36 (.tmp 2) (.tmp 18) rfl w.heap.size nil4 nil4 nil4 nil4 nil4 nil4 nil4 nil4 zeroM zeroM 36 rfl rfl HX2.out ones_nil (by kernel_rfl) ?_;intro w4 hb4 hg4)
  have HBG:=Lib.hid (HB2.out.grown hg4 HB2.out.size (fun j hj=>by cases hj;exact Nat.le_refl _))
  obtain ⟨c0,c1,c2,c3,c4,c5,c6,c7,c8⟩:=hb4.nine
  have HZ:=Lib.hid (MastIn.zero w4)
  clear hb4 hg4
  refine bodyPost_ret (v:=.tuple #[aggM nil4 nil4 nil4 nil4 zeroM,.int .i64 e0]) (by simp [results,Tryz.results22,go_sem,c0,c1,c2,c3,c4,c5,c6,c7,c8]) rfl ⟨_,by rw [HPF.out.2],?_,HBG.out⟩
  rw [HPF.out.1]
  exact ⟨_,_,_,_,rfl,HZ.out⟩
end Go.Proofs.YthcpglnmhimepaaGreatDoor.Un
