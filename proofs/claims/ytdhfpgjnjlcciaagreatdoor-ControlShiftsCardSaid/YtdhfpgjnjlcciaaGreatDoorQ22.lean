/- UnitDocParse PkMaster -/
import Derived.Test.YtdhfpgjnjlcciaaGreatDoorQ21
section
namespace Go.Proofs.YtdhfpgjnjlcciaaGreatDoor.Un
open Go.RowKit
theorem Zg {c:List Acct} {s:ByteArray} {k:Int} {a:Acct} (hf:findL c s=some a) (hr:rightA a=true):specA (findV (findL c s)) k=plainA c s k:=by
 unfold plainA findV
 rw [hf]
 have hc:=(kj hf).1
 simp only [Option.getD_some]
 obtain ⟨co,cl,ca,mu,fi,wo⟩:=a
 dsimp only at hc
 subst hc
 unfold specA
 rw [Bool.eq_iff_iff,decide_eq_true_eq]
 simp only [Bool.and_eq_true,decide_eq_true_eq,Bool.not_eq_true',Acct.mk.injEq,true_and]
 have hm:=xJ (qf hr).2.2
 dsimp only at hm
 constructor
 ·rintro ⟨⟨⟨h1,h2⟩,h3⟩,h4⟩
  have h5:fi=emp:=by
   by_cases e:fi=emp
   ·exact e
   ·rw [(ji fi).2 e] at h4;cases h4
  refine ⟨h1,h2,h3,h5,?_⟩
  rcases hm with ⟨_,_,_,h⟩ | ⟨_,_,_,h,_⟩ | ⟨_,_,_,h,_⟩ | ⟨_,_,_,h,_⟩ | ⟨_,_,_,h,_⟩
  ·exact h
  ·exact h
  ·exact h
  ·rw [h] at h4;cases h4
  ·rw [h] at h4;cases h4
 ·rintro ⟨h1,h2,h3,h4,_⟩
  exact ⟨⟨⟨h1,h2⟩,h3⟩,by rw [h4];exact qT⟩
theorem zf1 {l:List (List ByteArray)} {M:Mast} (h:Inv l M):allD M=allE M:=by
 have hs:=h.sane
 have hri:=Fl.qm hs.fl
 have e1:(codesD M).all (fun x=>(findL M.chart x.1).isSome)=rolesN M:=by
  simp only [codesD,rolesN,hasA,List.all_cons,List.all_nil,Bool.and_true]
  cases (findL M.chart M.res).isSome <;> cases (findL M.chart M.min).isSome <;> cases (findL M.chart M.dif).isSome <;> rfl
 have e2:M.lines.all (fun x=>(findL M.chart x.acc).isSome && (Fl.findF M.flows x.flow).isSome)=linesN M:=by
  unfold linesN
  congr 1
  funext x
  unfold lineN hasA
  rw [(jE hri x.flow).1]
 have e3:Fl.qb M.flows 5=Fl.wholeF M.flows:=Fl.zfX (Fl.QH hs.fl)
 unfold allD allE
 rw [e1,e2,e3]
 by_cases h1:M.cur=emp
 ·rw [if_pos h1,if_pos (by simp [h1])]
 ·rw [if_neg h1]
  cases hr:rolesN M with
  | false=>rw [if_pos rfl,if_pos (by simp)]
  | true =>
    rw [if_neg (by simp)]
    cases hl:linesN M with
    | false=>rw [if_pos rfl,if_pos (by simp)]
    | true =>
      have e4:(codesD M).all (fun x=>specA (findV (findL M.chart x.1)) x.2)=rolesP M:=by
       unfold rolesN hasA at hr
       simp only [Bool.and_eq_true] at hr
       obtain ⟨⟨⟨r1,r2⟩,r3⟩,r4⟩:=hr
       obtain ⟨a1,g1⟩:=Option.isSome_iff_exists.1 r1
       obtain ⟨a2,g2⟩:=Option.isSome_iff_exists.1 r2
       obtain ⟨a3,g3⟩:=Option.isSome_iff_exists.1 r3
       obtain ⟨a4,g4⟩:=Option.isSome_iff_exists.1 r4
       simp only [codesD,rolesP,List.all_cons,List.all_nil,Bool.and_true]
       rw [Zg g1 (h.right _ (kj g1).2),Zg g2 (h.right _ (kj g2).2),Zg g3 (h.right _ (kj g3).2),Zg g4 (h.right _ (kj g4).2)]
       cases plainA M.chart M.res 2 <;> cases plainA M.chart M.min 2 <;> cases plainA M.chart M.dif 0 <;> rfl
      rw [e4]
      simp [h1]
theorem ZQ {P:Program} {o:Oper} {act:Act} {w:World} {K:Act→World→Prop} {Q:Exit→Act→World→Prop} (ty:TypeId) (x y:Operand) (ho:o.op=.store ty x y)
 (g:Nat) (c0 f0 e0 l0 c f e l:Value) (M0 M:Mast) (t:TypeId) (hx:act.eval x=.pointer (some ⟨g,0,none⟩)) (hy:act.eval y=aggM c f e l M) (hg:BoxM w g t c0 f0 e0 l0 M0) (h1:Ones c f e l) (hi:(P.info? ty).map (·.size)=some 9)
 (h:∀ w',BoxM w' g t c f e l M→w.grownBy w' (some g)→K (act.put o.dst undef) w'):o.wp P act w K Q :=
 wp_store_row ty x y ho g _ hx hy t _ hg hi rfl (by have hs:∀ s,(Value.string s).oneCell'=true:=fun _=>rfl;simp [h1.c,h1.f,h1.e,h1.l,hs]) (h _ (setRow_heap w g _ _ t _ hg) (QX w g _))
def OffM (gr gm:Nat) (c f e l:Value):Prop:=OffV (fun b=>b≠gm∧b≠gr) c∧OffV (fun b=>b≠gm∧b≠gr) f∧OffV (fun b=>b≠gm∧b≠gr) e∧OffV (fun b=>b≠gm∧b≠gr) l
structure DocAt (w0 wr:World) (gr gm:Nat) (c f e l:Value) (M:Mast):Prop where
 box:BoxM wr gm 39 c f e l M
 res:BoxM wr gr 39 nil4 nil4 nil4 nil4 zeroM
 mast:MastIn wr c f e l M
 off:OffM gr gm c f e l
 bel:Below w0.heap.size w0 wr
 lo:w0.heap.size≤gr∧w0.heap.size≤gm∧gr≠gm
theorem DocAt.below {w0 wr w':World} {gr gm:Nat} {c f e l:Value} {M:Mast} (h:DocAt w0 wr gr gm c f e l M) (hb:Below wr.heap.size wr w'):DocAt w0 w' gr gm c f e l M :=
 ⟨h.box.kept hb,h.res.kept hb,h.mast.keep hb,h.off,h.bel.trans (hb.mono h.bel.size),h.lo⟩
structure NextAt (w0 w3:World) (gr gm gn:Nat) (c f e l c' f' e' l':Value) (M M':Mast) (N:Int):Prop where
 box:BoxM w3 gm 39 c f e l M
 res:BoxM w3 gr 39 nil4 nil4 nil4 nil4 zeroM
 new:BoxM w3 gn 39 c' f' e' l' M'
 mast:N=0→MastIn w3 c' f' e' l' M'
 off:OffM gr gm c' f' e' l'
 ones:Ones c' f' e' l'
 bel:Below w0.heap.size w0 w3
 lo:w0.heap.size≤gr∧w0.heap.size≤gm∧gr≠gm
theorem XA {w:World} {gr gm:Nat} {c f e l c' f' e' l':Value} (h:Off4 w c f e l c' f' e' l') (ho:OffM gr gm c f e l) (hr:gr < w.heap.size) (hm:gm < w.heap.size):OffM gr gm c' f' e' l':=by
 have hp:∀ b,w.heap.size≤b→b≠gm∧b≠gr:=fun b hb=>⟨by omega,by omega⟩
 exact ⟨h.1 _ hp ho.1,h.2.1 _ hp ho.2.1,h.2.2.1 _ hp ho.2.2.1,h.2.2.2 _ hp ho.2.2.2⟩
theorem DocAt.zfT {w0 wr w1 w2 w3:World} {gr gm:Nat} {c f e l c' f' e' l':Value} {M M':Mast} {N:Int} (h:DocAt w0 wr gr gm c f e l M) (hb1:Below wr.heap.size wr w1) (hm:N=0→MastIn w2 c' f' e' l' M') (ho:Ones c' f' e' l') (hof:Off4 w1 c f e l c' f' e' l') (hb2:Below w1.heap.size w1 w2)
 (hn:BoxM w3 w2.heap.size 39 c' f' e' l' M') (hb3:Below w2.heap.size w2 w3):NextAt w0 w3 gr gm w2.heap.size c f e l c' f' e' l' M M' N:=by
 have h1:=((h.below hb1).below hb2).below hb3
 exact ⟨h1.box,h1.res,hn,fun h0=>(hm h0).keep hb3,XA hof h.off (h.res.kept hb1).lt (h.box.kept hb1).lt,ho,h1.bel,h.lo⟩
theorem DocAt.zjc {w0 wr w1 w2 w3:World} {gr gm g:Nat} {c f e l c' f' e' l':Value} {M M':Mast} {N:Int} (h:DocAt w0 wr gr gm c f e l M) (hg0:wr.heap.size≤g) (hg1:g < w1.heap.size) (hb1:Below wr.heap.size wr w1) (hm:N=0→MastIn w2 c' f' e' l' M') (ho:Ones c' f' e' l') (hof:Off4 w1 c f e l c' f' e' l') (hb2:Below w1.heap.size w1 w2)
 (hn:BoxM w3 g 39 c' f' e' l' M') (hg:w2.grownBy w3 (some g)):NextAt w0 w3 gr gm g c f e l c' f' e' l' M M' N:=by
 have h1:=(h.below hb1).below hb2
 have hgm:=h.box.lt
 have hgr:=h.res.lt
 have hP:=KO (P:=fun b=>b≠g) h.mast (fun b hb e0=>by omega)
 have hp:∀ b,w1.heap.size≤b→b≠g:=fun b hb e0=>by omega
 have k:∀ j,j < w2.heap.size→j≠g→w3.heap[j]?=w2.heap[j]?:=fun j hj hne=>hg.block j hj (fun e0=>hne (Option.some.inj e0))
 refine ⟨(k _ h1.box.lt (by omega)).trans h1.box,(k _ h1.res.lt (by omega)).trans h1.res,hn,fun h0=>?_,XA hof h.off (h.res.kept hb1).lt (h.box.kept hb1).lt,ho,?_,h.lo⟩
 ·exact xm (hm h0) (hof.1 _ hp hP.1) (hof.2.1 _ hp hP.2.1) (hof.2.2.1 _ hp hP.2.2.1) (hof.2.2.2 _ hp hP.2.2.2) (fun b hb hlt=>k b hlt hb)
 ·exact h1.bel.grown hg h1.bel.size (fun j hj=>by cases hj;have:=h.bel.size;omega)
theorem NextAt.stored {w0 w3 w4:World} {gr gm gn:Nat} {c f e l c' f' e' l':Value} {M M':Mast} {N:Int} (h:NextAt w0 w3 gr gm gn c f e l c' f' e' l' M M' N) (h0:N=0) (hb:BoxM w4 gm 39 c' f' e' l' M') (hg:w3.grownBy w4 (some gm)):DocAt w0 w4 gr gm c' f' e' l' M':=by
 have k:∀ j,j < w3.heap.size→j≠gm→w4.heap[j]?=w3.heap[j]?:=fun j hj hne=>hg.block j hj (fun e0=>hne (Option.some.inj e0))
 refine ⟨hb,(k _ h.res.lt h.lo.2.2).trans h.res,?_,h.off,?_,h.lo⟩
 ·exact xm (h.mast h0) h.off.1 h.off.2.1 h.off.2.2.1 h.off.2.2.2 (fun b hb hlt=>k b hlt hb.1)
 ·exact h.bel.grown hg h.bel.size (fun j hj=>by cases hj;exact h.lo.2.1)
theorem DocAt.result {w0 w3 w4:World} {gr gm:Nat} {c f e l:Value} {M:Mast} (h:DocAt w0 w3 gr gm c f e l M) (hg:w3.grownBy w4 (some gr)):MastIn w4 c f e l M∧Below w0.heap.size w0 w4:=by
 have k:∀ j,j < w3.heap.size→j≠gr→w4.heap[j]?=w3.heap[j]?:=fun j hj hne=>hg.block j hj (fun e0=>hne (Option.some.inj e0))
 exact ⟨xm h.mast h.off.1 h.off.2.1 h.off.2.2.1 h.off.2.2.2 (fun b hb hlt=>k b hlt hb.2),h.bel.grown hg h.bel.size (fun j hj=>by cases hj;exact h.lo.1)⟩
set_option maxRecDepth 100000 in
set_option maxHeartbeats 16000000 in
theorem zeu (s:ByteArray) (w:World) (hs:s.size≤30000) :
 Calls Tryz.prog 29 #[.string s] w (Jr w (parseM s).1 (parseM s).2):=by
 have hb0:=(Below.refl w.heap.size w).alloc (Nat.le_refl _) (.cells #[.slice none 0 0,.slice none 0 0,.slice none 0 0,.slice none 0 0,.string ⟨#[]⟩,.string ⟨#[]⟩,.string ⟨#[]⟩,.string ⟨#[]⟩,.string ⟨#[]⟩] 39)
 have hx0:BoxM (w.alloc (.cells #[.slice none 0 0,.slice none 0 0,.slice none 0 0,.slice none 0 0,.string ⟨#[]⟩,.string ⟨#[]⟩,.string ⟨#[]⟩,.string ⟨#[]⟩,.string ⟨#[]⟩] 39)) w.heap.size 39 nil4 nil4 nil4 nil4 zeroM:=heap_alloc_new w _
 obtain ⟨W0,hW0⟩:∃ W0,w.alloc (.cells #[.slice none 0 0,.slice none 0 0,.slice none 0 0,.slice none 0 0,.string ⟨#[]⟩,.string ⟨#[]⟩,.string ⟨#[]⟩,.string ⟨#[]⟩,.string ⟨#[]⟩] 39)=W0:=⟨_,rfl⟩
 rw [hW0] at hb0 hx0
 have HB0:=Lib.hid hb0
 have HX0:=Lib.hid hx0
 have HLN:=Lib.hid (fun W=>zbJ s W hs)
 have HWP:=Lib.hid (QG s)
 have hpm:parseM s=if linE s.data.toList=0 then linesM (wordsT s) else (zeroM,linE s.data.toList):=rfl
 have hinv:∀ M,runM zeroM (wordsT s)=(M,0)→allD M=allE M:=fun M h=>zf1 (Yh h)
 obtain ⟨L,hL⟩:∃ L,asB (linV s.data.toList)=L:=⟨_,rfl⟩
 have hWT:wordsT s=L.map (·.2):=by unfold wordsT;rw [hL]
 rw [hWT] at hpm HWP hinv
 have HINV:=Lib.hid hinv
 have hLL:L.length≤30001:=by
  rw [←hL,vH]
  unfold linV
  split
  ·simp
  ·split
   ·unfold linesL
    have h1:=ZU (enumL 1 (zn [] s.data.toList))
    rw [xh] at h1
    have h2:=vt [] s.data.toList
    rw [zv] at h2
    omega
   ·simp
 obtain ⟨e0,he0⟩:∃ e0,linE s.data.toList=e0:=⟨_,rfl⟩
 rw [he0] at hpm HLN
 rw [hL] at HLN
 obtain ⟨PM,hPM⟩:∃ PM,(parseM s).1=PM:=⟨_,rfl⟩
 obtain ⟨PE,hPE⟩:∃ PE,(parseM s).2=PE:=⟨_,rfl⟩
 rw [hPM,hPE]
 have HPR:Hid ((PM,PE)=if e0=0 then linesM (L.map (·.2)) else (zeroM,e0)):=Lib.hid (by rw [←hpm,←hPM,←hPE])
 clear hpm hL hWT he0 hPM hPE hb0 hx0 hinv hs
 go_enter Tryz.func29,Tryz.ntmps29
 go_wp2_with fail
 refine (HLN.out _).mono ?_
 intro en w2 hlh
 obtain ⟨v2,rfl,hh2,hb2⟩:=zde hlh
 have HX2:=Lib.hid (HX0.out.kept hb2)
 have HB2:=Lib.hid (HB0.out.trans (hb2.mono HB0.out.size))
 obtain ⟨p,cp,e2,hm2,hc2⟩:=hh2.lines
 subst e2
 have HC:=Lib.hid hc2
 obtain ⟨n,hn⟩:∃ n,L.length=n:=⟨_,rfl⟩
 rw [hn] at hLL hm2 ⊢
 have HN:=Lib.hid hn
 clear hlh hh2 hb2 hc2 hn hW0 HLN
 by_cases h0:e0=0
 ·subst h0
  have HPR2:Hid ((PM,PE)=linesM (L.map (·.2))):=Lib.hid (by rw [HPR.out,if_pos rfl])
  clear HPR
  have hb3:=(Below.refl w2.heap.size w2).alloc (Nat.le_refl _) (.cells #[.slice none 0 0,.slice none 0 0,.slice none 0 0,.slice none 0 0,.string ⟨#[]⟩,.string ⟨#[]⟩,.string ⟨#[]⟩,.string ⟨#[]⟩,.string ⟨#[]⟩] 39)
  have hx3:BoxM (w2.alloc (.cells #[.slice none 0 0,.slice none 0 0,.slice none 0 0,.slice none 0 0,.string ⟨#[]⟩,.string ⟨#[]⟩,.string ⟨#[]⟩,.string ⟨#[]⟩,.string ⟨#[]⟩] 39)) w2.heap.size 39 nil4 nil4 nil4 nil4 zeroM:=heap_alloc_new w2 _
  have hoff:OffV (fun b=>b≠w2.heap.size∧b≠w.heap.size) nil4:=fun _ _ _ e=>by cases e
  have HST:Hid (∃ c f e k M,DocAt w (w2.alloc (.cells #[.slice none 0 0,.slice none 0 0,.slice none 0 0,.slice none 0 0,.string ⟨#[]⟩,.string ⟨#[]⟩,.string ⟨#[]⟩,.string ⟨#[]⟩,.string ⟨#[]⟩] 39)) w.heap.size w2.heap.size c f e k M∧Sane M∧runM zeroM (L.map (·.2))=runM M ((L.map (·.2)).drop 0)) :=
   Lib.hid ⟨nil4,nil4,nil4,nil4,zeroM,⟨hx3,HX2.out.kept hb3,MastIn.zero _,⟨hoff,hoff,hoff,hoff⟩,HB2.out.trans (hb3.mono HB2.out.size),⟨Nat.le_refl _,HB2.out.size,by have:=HX2.out.lt;omega⟩⟩,Sane.zero,rfl⟩
  have HBL:Hid (Below w2.heap.size w2 (w2.alloc (.cells #[.slice none 0 0,.slice none 0 0,.slice none 0 0,.slice none 0 0,.string ⟨#[]⟩,.string ⟨#[]⟩,.string ⟨#[]⟩,.string ⟨#[]⟩,.string ⟨#[]⟩] 39))):=Lib.hid hb3
  clear hb3 hx3 hoff
  go_wp2
  go_loopw [7] (fun s7 wr=>∃ i:Nat,i≤n∧s7=.int .i64 (i:Int)∧Hid (∃ c f e k M,DocAt w wr w.heap.size w2.heap.size c f e k M∧Sane M∧runM zeroM (L.map (·.2))=runM M ((L.map (·.2)).drop i))∧Hid (Below w2.heap.size w2 wr)) (fun s7 _=>n - (intOf s7).toNat)
  case atStart=>exact ⟨0,Nat.zero_le _,rfl,HST,HBL⟩
  case round =>
   obtain ⟨i,hi,rfl,HPA,HBR⟩:=hrel
   obtain ⟨c,f,e,k,M,hd,hsn,hru⟩:=HPA.out
   have HD0:=Lib.hid hd
   have HSN:=Lib.hid hsn
   have HRU:=Lib.hid hru
   clear hd hsn hru HPA HST HBL
   by_cases hlt:i < n
   ·obtain ⟨⟨ln,ws⟩,hx⟩:∃ x,L[i]?=some x:=⟨_,List.getElem?_eq_getElem (by rw [HN.out];exact hlt)⟩
    obtain ⟨b,o,u,rfl,d0,d1,hu⟩:=HC.out i _ hx
    dsimp only at d0 d1 hu
    have hwx:(L.map (·.2))[i]?=some ws:=by rw [List.getElem?_map,hx];rfl
    have HWX:=Lib.hid hwx
    have HW0:=Lib.hid (HWP.out ws (List.mem_of_getElem? hwx))
    have HU:=Lib.hid (hu.keep HBR.out)
    obtain ⟨pu,cu,eu,_⟩:=hu
    subst eu
    have y1:=cell_later HBR.out d1
    obtain ⟨nw,hnw⟩:∃ nw,ws.length=nw:=⟨_,rfl⟩
    rw [hnw] at y1 HU
    obtain ⟨k0,k1,k2,k3,k4,k5,k6,k7,k8⟩:=HD0.out.box.nine
    have r0:=fun p:Past wr=>za k0 p
    have r1:=fun p:Past wr=>za k1 p
    have r2:=fun p:Past wr=>za k2 p
    have r3:=fun p:Past wr=>za k3 p
    have r4:=fun p:Past wr=>za k4 p
    have r5:=fun p:Past wr=>za k5 p
    have r6:=fun p:Past wr=>za k6 p
    have r7:=fun p:Past wr=>za k7 p
    have r8:=fun p:Past wr=>za k8 p
    have r9:=fun p:Past wr=>za y1 p
    have HRC:=Lib.hid (fun W (hW:Below wr.heap.size wr W)=>zim (.slice pu nw cu) c f e k ws M W (HD0.out.mast.keep hW) HSN.out (HU.out.keep hW) HW0.out)
    obtain ⟨N,hN⟩:∃ N,stepE M ws=N:=⟨_,rfl⟩
    unfold qg at HRC
    rw [hN] at HRC
    have HNE:=Lib.hid hN
    clear hx hwx d0 d1 hnw y1 k0 k1 k2 k3 k4 k5 k6 k7 k8 hN
    go_wp2_with fail
    refine qX (.two [0,1,2,3,4,5] 6 (.one [7,8,9] 10 (.one [] 11 (.last [12]))) 10 (.one [] 6 (.one [7,8,9] 11 (.last [12])))) (by kernel_rfl) (by kernel_rfl) (fun d _ _ _ _ h=>by cases d <;> exact h) ?_
    obtain ⟨wq,hwq⟩:∃ wq,wr.drew=wq:=⟨_,rfl⟩
    rw [hwq]
    have HD:Hid (Below wr.heap.size wr wq):=Lib.hid (by rw [←hwq];exact ⟨rfl,rfl,rfl,Nat.le_refl _,fun _ _=>rfl⟩)
    clear hwq
    simp only [wpPlan,pick,nth]
    repeat (go_big_quiet_step (fail))
    refine wpQuiet_nil ?_
    clear r0 r1 r2 r3 r4 r5 r6 r7 r8 r9
    refine ⟨?_,?_⟩
    ·intro K hK
     refine ze (by kernel_rfl) ?_
     go_big_op
     refine (HRC.out wq HD.out).mono ?_
     rintro en w3 ⟨c',f',e',k',M',rfl,hz,ho,hof,hb3⟩
     have HP3:=Lib.hid (HD.out.trans (hb3.mono HD.out.size))
     have HZ:Hid (N=0→M'=stepV M ws):=Lib.hid (fun h0=>(hz h0).1)
     have HZM:Hid (N=0→MastIn w3 c' f' e' k' M'):=Lib.hid (fun h0=>(hz h0).2)
     have HO:=Lib.hid ho
     have HOF:=Lib.hid hof
     have HB3:=Lib.hid hb3
     clear hz ho hof hb3
     refine hK _ _ (zy HP3.out) ?_
     clear hK K
     repeat (go_big_quiet_step (fail))
     refine wpQuiet_nil ?_
     intro K hK
     refine ze (by kernel_rfl) ?_
     go_big_op
     have HA4:=Lib.hid ((Below.refl w3.heap.size w3).alloc (Nat.le_refl _) (.cells #[.slice none 0 0,.slice none 0 0,.slice none 0 0,.slice none 0 0,.string ⟨#[]⟩,.string ⟨#[]⟩,.string ⟨#[]⟩,.string ⟨#[]⟩,.string ⟨#[]⟩] 39))
     have HP4:=Lib.hid (HP3.out.trans (HA4.out.mono HP3.out.size))
     have hx4:BoxM (w3.alloc (.cells #[.slice none 0 0,.slice none 0 0,.slice none 0 0,.slice none 0 0,.string ⟨#[]⟩,.string ⟨#[]⟩,.string ⟨#[]⟩,.string ⟨#[]⟩,.string ⟨#[]⟩] 39)) w3.heap.size 39 nil4 nil4 nil4 nil4 zeroM:=heap_alloc_new w3 _
     refine hK _ _ (zy HP4.out) ?_
     clear hK K
     refine wpQuiet_nil ?_
     intro K hK
     refine ze (by kernel_rfl) ?_
     refine ZQ 39 (.tmp 8) (.tmp 34) rfl w3.heap.size nil4 nil4 nil4 nil4 c' f' e' k' zeroM M' 39 rfl rfl hx4 HO.out (by kernel_rfl) ?_
     intro w5 hb5 hg5
     have HG5:=Lib.hid (HA4.out.grown hg5 HA4.out.size (fun j hj=>by cases hj;exact Nat.le_refl _))
     have HNX:=Lib.hid (HD0.out.zfT HD.out HZM.out HO.out HOF.out HB3.out hb5 HG5.out)
     have HP5:=Lib.hid (HP3.out.trans (HG5.out.mono HP3.out.size))
     have HBN:=Lib.hid (HBR.out.trans (HP5.out.mono HBR.out.size))
     clear hb5 hg5 hx4
     refine hK _ _ (zy HP5.out) ?_
     clear hK K
     simp only [Act.put]
     repeat (go_big_quiet_step (fail))
     refine wpQuiet_nil ?_
     have HDR:Hid ((L.map (·.2)).drop i=ws::(L.map (·.2)).drop (i+1)):=Lib.hid (by
      have hlt':=(List.getElem?_eq_some_iff.1 HWX.out).1
      rw [List.drop_eq_getElem_cons hlt',(List.getElem?_eq_some_iff.1 HWX.out).2])
     by_cases hN0:N=0
     ·subst hN0
      obtain ⟨z0,z1,z2,z3,z4,z5,z6,z7,z8⟩:=HNX.out.new.nine
      go_wp2_with (refine zi rfl 39 (.tmp 6) (.tmp 40) rfl w2.heap.size c f e k c' f' e' k' M M' 39 rfl rfl HNX.out.box HNX.out.ones (by kernel_rfl) ?_;intro w6 hb6 hg6;have HDN:=Lib.hid (HNX.out.stored rfl hb6 hg6);have HBW:=Lib.hid (HBN.out.grown hg6 HBN.out.size (fun j hj=>by cases hj;exact Nat.le_refl _));clear hb6 hg6 z0 z1 z2 z3 z4 z5 z6 z7 z8)
      have HNN:Hid (∃ c f e k M,DocAt w w6 w.heap.size w2.heap.size c f e k M∧Sane M∧runM zeroM (L.map (·.2))=runM M ((L.map (·.2)).drop (i+1))):=Lib.hid (by
       have hst:M'=stepV M ws:=HZ.out rfl
       refine ⟨_,_,_,_,_,HDN.out,?_,?_⟩
       ·rw [hst];exact HSN.out.step HNE.out
       ·rw [HRU.out,HDR.out,xE _ _ _ HNE.out,hst])
      go_roundw
      case rel=>exact ⟨i+1,by omega,by go_num,HNN,HBW⟩
      case measure=>simp [intOf];omega
     ·have HPF:Hid (PM=zeroM∧PE=N):=Lib.hid (by
       have h1:=HPR2.out
       unfold linesM at h1
       rw [HRU.out,HDR.out,ZZ _ _ _ (by rw [HNE.out];exact hN0),YA _ (by rw [HNE.out];exact hN0),HNE.out] at h1
       exact Prod.mk.inj h1)
      have hNz:(N != 0)=true:=by simp [hN0]
      go_wp2_with (refine zi rfl 39 (.tmp 2) (.tmp 38) rfl w.heap.size nil4 nil4 nil4 nil4 nil4 nil4 nil4 nil4 zeroM zeroM 39 rfl rfl HNX.out.res jt (by kernel_rfl) ?_;intro w6 hb6 hg6)
      have HBG:=Lib.hid (HNX.out.bel.grown hg6 HNX.out.bel.size (fun j hj=>by cases hj;exact Nat.le_refl _))
      obtain ⟨c0,c1,c2,c3,c4,c5,c6,c7,c8⟩:=hb6.nine
      have HZZ:=Lib.hid (MastIn.zero w6)
      clear hb6 hg6
      refine bodyPost_ret (v:=.tuple #[aggM nil4 nil4 nil4 nil4 zeroM,.int .i64 N]) (by simp [results,Tryz.results29,go_sem,c0,c1,c2,c3,c4,c5,c6,c7,c8]) rfl ⟨_,by rw [HPF.out.2],?_,HBG.out⟩
      rw [HPF.out.1]
      exact ⟨_,_,_,_,rfl,HZZ.out⟩
    ·intro K hK
     refine ze (by kernel_rfl) ?_
     go_big_op
     have HA2:=Lib.hid (HD.out.alloc HD.out.size (.cells #[.slice none 0 0,.slice none 0 0,.slice none 0 0,.slice none 0 0,.string ⟨#[]⟩,.string ⟨#[]⟩,.string ⟨#[]⟩,.string ⟨#[]⟩,.string ⟨#[]⟩] 39))
     have hx2:BoxM (wq.alloc (.cells #[.slice none 0 0,.slice none 0 0,.slice none 0 0,.slice none 0 0,.string ⟨#[]⟩,.string ⟨#[]⟩,.string ⟨#[]⟩,.string ⟨#[]⟩,.string ⟨#[]⟩] 39)) wq.heap.size 39 nil4 nil4 nil4 nil4 zeroM:=heap_alloc_new wq _
     have HX4:=Lib.hid hx2
     have HQ1:Hid (wr.heap.size≤wq.heap.size):=Lib.hid HD.out.size
     refine hK _ _ (zy HA2.out) ?_
     clear hK K hx2
     refine wpQuiet_nil ?_
     intro K hK
     refine ze (by kernel_rfl) ?_
     go_big_op
     refine (HRC.out _ HA2.out).mono ?_
     rintro en w3 ⟨c',f',e',k',M',rfl,hz,ho,hof,hb3⟩
     have HP3:=Lib.hid (HA2.out.trans (hb3.mono HA2.out.size))
     have HZ:Hid (N=0→M'=stepV M ws):=Lib.hid (fun h0=>(hz h0).1)
     have HZM:Hid (N=0→MastIn w3 c' f' e' k' M'):=Lib.hid (fun h0=>(hz h0).2)
     have HO:=Lib.hid ho
     have HOF:=Lib.hid hof
     have HB3:=Lib.hid hb3
     have HX5:=Lib.hid (HX4.out.kept hb3)
     clear hz ho hof hb3
     refine hK _ _ (zy HP3.out) ?_
     clear hK K
     repeat (go_big_quiet_step (fail))
     refine wpQuiet_nil ?_
     intro K hK
     refine ze (by kernel_rfl) ?_
     refine ZQ 39 (.tmp 8) (.tmp 34) rfl wq.heap.size nil4 nil4 nil4 nil4 c' f' e' k' zeroM M' 39 rfl rfl HX5.out HO.out (by kernel_rfl) ?_
     intro w5 hb5 hg5
     have HNX:=Lib.hid (HD0.out.zjc HQ1.out HX4.out.lt HA2.out HZM.out HO.out HOF.out HB3.out hb5 hg5)
     have HP5:=Lib.hid (HP3.out.grown hg5 HP3.out.size (fun j hj=>by cases hj;exact HQ1.out))
     have HBN:=Lib.hid (HBR.out.trans (HP5.out.mono HBR.out.size))
     clear hb5 hg5
     refine hK _ _ (zy HP5.out) ?_
     clear hK K
     simp only [Act.put]
     repeat (go_big_quiet_step (fail))
     refine wpQuiet_nil ?_
     have HDR:Hid ((L.map (·.2)).drop i=ws::(L.map (·.2)).drop (i+1)):=Lib.hid (by
      have hlt':=(List.getElem?_eq_some_iff.1 HWX.out).1
      rw [List.drop_eq_getElem_cons hlt',(List.getElem?_eq_some_iff.1 HWX.out).2])
     by_cases hN0:N=0
     ·subst hN0
      obtain ⟨z0,z1,z2,z3,z4,z5,z6,z7,z8⟩:=HNX.out.new.nine
      go_wp2_with (refine zi rfl 39 (.tmp 6) (.tmp 40) rfl w2.heap.size c f e k c' f' e' k' M M' 39 rfl rfl HNX.out.box HNX.out.ones (by kernel_rfl) ?_;intro w6 hb6 hg6;have HDN:=Lib.hid (HNX.out.stored rfl hb6 hg6);have HBW:=Lib.hid (HBN.out.grown hg6 HBN.out.size (fun j hj=>by cases hj;exact Nat.le_refl _));clear hb6 hg6 z0 z1 z2 z3 z4 z5 z6 z7 z8)
      have HNN:Hid (∃ c f e k M,DocAt w w6 w.heap.size w2.heap.size c f e k M∧Sane M∧runM zeroM (L.map (·.2))=runM M ((L.map (·.2)).drop (i+1))):=Lib.hid (by
       have hst:M'=stepV M ws:=HZ.out rfl
       refine ⟨_,_,_,_,_,HDN.out,?_,?_⟩
       ·rw [hst];exact HSN.out.step HNE.out
       ·rw [HRU.out,HDR.out,xE _ _ _ HNE.out,hst])
      go_roundw
      case rel=>exact ⟨i+1,by omega,by go_num,HNN,HBW⟩
      case measure=>simp [intOf];omega
     ·have HPF:Hid (PM=zeroM∧PE=N):=Lib.hid (by
       have h1:=HPR2.out
       unfold linesM at h1
       rw [HRU.out,HDR.out,ZZ _ _ _ (by rw [HNE.out];exact hN0),YA _ (by rw [HNE.out];exact hN0),HNE.out] at h1
       exact Prod.mk.inj h1)
      have hNz:(N != 0)=true:=by simp [hN0]
      go_wp2_with (refine zi rfl 39 (.tmp 2) (.tmp 38) rfl w.heap.size nil4 nil4 nil4 nil4 nil4 nil4 nil4 nil4 zeroM zeroM 39 rfl rfl HNX.out.res jt (by kernel_rfl) ?_;intro w6 hb6 hg6)
      have HBG:=Lib.hid (HNX.out.bel.grown hg6 HNX.out.bel.size (fun j hj=>by cases hj;exact Nat.le_refl _))
      obtain ⟨c0,c1,c2,c3,c4,c5,c6,c7,c8⟩:=hb6.nine
      have HZZ:=Lib.hid (MastIn.zero w6)
      clear hb6 hg6
      refine bodyPost_ret (v:=.tuple #[aggM nil4 nil4 nil4 nil4 zeroM,.int .i64 N]) (by simp [results,Tryz.results29,go_sem,c0,c1,c2,c3,c4,c5,c6,c7,c8]) rfl ⟨_,by rw [HPF.out.2],?_,HBG.out⟩
      rw [HPF.out.1]
      exact ⟨_,_,_,_,rfl,HZZ.out⟩
   ·have HRN:Hid (runM zeroM (L.map (·.2))=(M,0)):=Lib.hid (by
     rw [HRU.out,List.drop_eq_nil_of_le (by rw [List.length_map,HN.out];omega)];rfl)
    have HPF:Hid ((PM,PE)=endM (M,0)):=Lib.hid (by rw [HPR2.out];unfold linesM;rw [HRN.out])
    have HCK:=Lib.hid (zaS c f e k M wr HD0.out.mast (by have:=HSN.out.lf;omega))
    rw [HINV.out M HRN.out] at HCK
    obtain ⟨A,hA⟩:∃ A,allE M=A:=⟨_,rfl⟩
    rw [hA] at HCK
    have HA:=Lib.hid hA
    obtain ⟨c0,c1,c2,c3,c4,c5,c6,c7,c8⟩:=HD0.out.box.nine
    have HO:=Lib.hid (jJ HD0.out.mast)
    clear hA
    go_wp2_with fail
    clear c0 c1 c2 c3 c4 c5 c6 c7 c8
    refine HCK.out.mono ?_
    rintro en w3 ⟨rfl,hb3⟩
    have HD3:=Lib.hid (HD0.out.below hb3)
    clear hb3
    by_cases hA0:A=0
    ·subst hA0
     have HPG:Hid (PM=M∧PE=0):=Lib.hid (by
      have h1:=HPF.out
      rw [Zl _ HA.out] at h1
      exact Prod.mk.inj h1)
     obtain ⟨c0,c1,c2,c3,c4,c5,c6,c7,c8⟩:=HD3.out.box.nine
     go_wp2_with (refine zi rfl 39 (.tmp 2) (.tmp 47) rfl w.heap.size nil4 nil4 nil4 nil4 c f e k zeroM M 39 rfl rfl HD3.out.res HO.out (by kernel_rfl) ?_;intro w4 hb4 hg4)
     clear c0 c1 c2 c3 c4 c5 c6 c7 c8
     have HRS:=Lib.hid (HD3.out.result hg4)
     obtain ⟨c0,c1,c2,c3,c4,c5,c6,c7,c8⟩:=hb4.nine
     clear hb4 hg4
     refine bodyPost_ret (v:=.tuple #[aggM c f e k M,.int .i64 0]) (by simp [results,Tryz.results29,go_sem,c0,c1,c2,c3,c4,c5,c6,c7,c8]) rfl ⟨_,by rw [HPG.out.2],?_,HRS.out.2⟩
     rw [HPG.out.1]
     exact ⟨_,_,_,_,rfl,HRS.out.1⟩
    ·have HPG:Hid (PM=zeroM∧PE=A):=Lib.hid (by
      have h1:=HPF.out
      rw [Q0 _ (by rw [HA.out];exact hA0),HA.out] at h1
      exact Prod.mk.inj h1)
     have hAz:(A != 0)=true:=by simp [hA0]
     go_wp2_with (refine zi rfl 39 (.tmp 2) (.tmp 45) rfl w.heap.size nil4 nil4 nil4 nil4 nil4 nil4 nil4 nil4 zeroM zeroM 39 rfl rfl HD3.out.res jt (by kernel_rfl) ?_;intro w4 hb4 hg4)
     have HRS:=Lib.hid (HD3.out.result hg4)
     obtain ⟨c0,c1,c2,c3,c4,c5,c6,c7,c8⟩:=hb4.nine
     have HZ:=Lib.hid (MastIn.zero w4)
     clear hb4 hg4
     refine bodyPost_ret (v:=.tuple #[aggM nil4 nil4 nil4 nil4 zeroM,.int .i64 A]) (by simp [results,Tryz.results29,go_sem,c0,c1,c2,c3,c4,c5,c6,c7,c8]) rfl ⟨_,by rw [HPG.out.2],?_,HRS.out.2⟩
     rw [HPG.out.1]
     exact ⟨_,_,_,_,rfl,HZ.out⟩
 ·have HPF:Hid (PM=zeroM∧PE=e0):=Lib.hid (by
   have h1:=HPR.out
   rw [if_neg h0] at h1
   exact Prod.mk.inj h1)
  have h0z:(e0 != 0)=true:=by simp [h0]
  go_wp2_with (refine zi rfl 39 (.tmp 2) (.tmp 18) rfl w.heap.size nil4 nil4 nil4 nil4 nil4 nil4 nil4 nil4 zeroM zeroM 39 rfl rfl HX2.out jt (by kernel_rfl) ?_;intro w4 hb4 hg4)
  have HBG:=Lib.hid (HB2.out.grown hg4 HB2.out.size (fun j hj=>by cases hj;exact Nat.le_refl _))
  obtain ⟨c0,c1,c2,c3,c4,c5,c6,c7,c8⟩:=hb4.nine
  have HZ:=Lib.hid (MastIn.zero w4)
  clear hb4 hg4
  refine bodyPost_ret (v:=.tuple #[aggM nil4 nil4 nil4 nil4 zeroM,.int .i64 e0]) (by simp [results,Tryz.results29,go_sem,c0,c1,c2,c3,c4,c5,c6,c7,c8]) rfl ⟨_,by rw [HPF.out.2],?_,HBG.out⟩
  rw [HPF.out.1]
  exact ⟨_,_,_,_,rfl,HZ.out⟩
end Go.Proofs.YtdhfpgjnjlcciaaGreatDoor.Un
end
section
namespace Go.Proofs.YtdhfpgjnjlcciaaGreatDoor.Pk
open Go.RowKit Go.Maps Go.Proofs.YtdhfpgjnjlcciaaGreatDoor.Un
structure Solid (M:Mast):Prop where
 ch:∀ x∈M.chart,x.code≠emp
 fl:∀ x∈M.flows,x.code≠emp
 en:∀ x∈M.ents,x.code≠emp
 li:∀ x∈M.lines,x.acc≠emp
theorem Solid.zero:Solid zeroM:=⟨fun _ h=>(by cases h),fun _ h=>(by cases h),fun _ h=>(by cases h),fun _ h=>(by cases h)⟩
theorem zel {l:List (List ByteArray)} {M:Mast} (h:Inv l M):∀ x∈M.ents,nmB x.code=true:=fun x hx=>by
 have hm:=(h.ents.mem_iff).1 hx
 obtain ⟨ws,_,e⟩:=List.mem_filterMap.1 hm
 unfold enO at e
 split at e
 ·rename_i hh
  cases e
  rcases jk hh.2 with ⟨_,a,b,rfl,ha,_⟩ | ⟨h0,_⟩ | ⟨h0,_⟩
  ·exact ha
  ·rw [hh.1] at h0;exact absurd h0 (by decide)
  ·rw [hh.1] at h0;exact absurd h0 (by decide)
 ·cases e
theorem zfK {s:ByteArray} {M:Mast} (h:Zw s M):Solid M where
 ch x hx:=kG (qf (h.inv.right x hx)).1
 fl x hx:=kG (Fl.qf (h.inv.rightF x hx)).1
 en x hx:=kG (zel h.inv x hx)
 li x hx e:=by
  obtain ⟨_,_,hl,_⟩:=JS h.all
  have h1:=List.all_eq_true.1 hl x hx
  unfold lineN at h1
  rw [Bool.and_eq_true,e,h.inv.zd9] at h1
  cases h1.1
theorem zhO (s:ByteArray):Solid (parseM s).1:=by
 rcases VL s with ⟨M,h1,h2,h3,h4,h5⟩ | ⟨h1,_⟩
 ·rw [h4];exact zfK (s:=s) ⟨h1,h2,h3,h5⟩
 ·rw [h1];exact Solid.zero
theorem ZB {α:Type} {E:Enc α} {W:World} {g:Nat} {t:TypeId} {v:Value} {L:List α} (hb:BoxM W g t nil4 nil4 nil4 nil4 zeroM) (h:ElsV E W v L) (hf:∀ x∈L,∃ s:ByteArray,s≠emp∧(E.cs x)[0]?=some (.string s)):OffV (fun b=>b≠g) v:=fun ad n c e hn=>by
 obtain ⟨p,c',ev,_,_,_,hc⟩:=h
 rw [ev] at e
 cases e
 obtain ⟨x,hx⟩:∃ x,L[0]?=some x:=⟨_,List.getElem?_eq_getElem hn⟩
 obtain ⟨b,o,e1,hat⟩:=hc 0 x hx
 cases e1
 obtain ⟨s,hs,hs0⟩:=hf x (List.mem_of_getElem? hx)
 have hcell:=hat 0 _ hs0
 intro hbg
 have hbg':b=g:=hbg
 subst hbg'
 have hcr:=cell_of_row W b (o+0 * E.k+0) _ _ (0,0) hb
 rw [hcell] at hcr
 generalize o+0 * E.k+0=i at hcr
 match i with
 | 0=>cases hcr
 | 1=>cases hcr
 | 2=>cases hcr
 | 3=>cases hcr
 | 4=>cases hcr;exact hs rfl
 | 5=>cases hcr;exact hs rfl
 | 6=>cases hcr;exact hs rfl
 | 7=>cases hcr;exact hs rfl
 | 8=>cases hcr;exact hs rfl
 | j+9=>cases hcr
theorem zaD {W:World} {g:Nat} {t:TypeId} {c f e l:Value} {M:Mast} (hb:BoxM W g t nil4 nil4 nil4 nil4 zeroM) (h:MastIn W c f e l M) (hs:Solid M):OffV (fun b=>b≠g) c∧OffV (fun b=>b≠g) f∧OffV (fun b=>b≠g) e∧OffV (fun b=>b≠g) l :=
 ⟨ZB hb (jR.1 h.chart) fun x hx=>⟨_,hs.ch x hx,rfl⟩,ZB hb h.flows fun x hx=>⟨_,hs.fl x hx,rfl⟩,ZB hb h.ents fun x hx=>⟨_,hs.en x hx,rfl⟩,ZB hb h.lines fun x hx=>⟨_,hs.li x hx,rfl⟩⟩
theorem XY {W W':World} {g1 g2:Nat} {t1 t2:TypeId} {c f e l:Value} {M:Mast} (hb1:BoxM W g1 t1 nil4 nil4 nil4 nil4 zeroM) (hb2:BoxM W g2 t2 nil4 nil4 nil4 nil4 zeroM) (h:MastIn W c f e l M) (hs:Solid M)
 (hk:∀ b,b≠g1→b≠g2→b < W.heap.size→W'.heap[b]?=W.heap[b]?):MastIn W' c f e l M:=by
 obtain ⟨a1,a2,a3,a4⟩:=zaD hb1 h hs
 obtain ⟨b1,b2,b3,b4⟩:=zaD hb2 h hs
 have both:∀ v,OffV (fun b=>b≠g1) v→OffV (fun b=>b≠g2) v→OffV (fun b=>b≠g1∧b≠g2) v:=fun v x y ad n c e hn=>⟨x ad n c e hn,y ad n c e hn⟩
 exact xm h (both _ a1 b1) (both _ a2 b2) (both _ a3 b3) (both _ a4 b4) (fun b hb hlt=>hk b hb.1 hb.2 hlt)
def ziG (s:ByteArray) (w:World) (en:Ending) (w':World):Prop :=
 ∃ M c f e l c' f' e' l',∃ is:Bool,en=.returned (.tuple #[aggM c f e l M,aggM c' f' e' l' M,.bool is])∧MastIn w' c f e l M∧MastIn w' c' f' e' l' M∧Below w.heap.size w w'∧(is=true→Zw s M∧s.size≤4000)
abbrev yo (w:World):World:=w.alloc (.cells #[.slice none 0 0,.slice none 0 0,.slice none 0 0,.slice none 0 0,.string emp,.string emp,.string emp,.string emp,.string emp] 39)
theorem K7 (w:World):BoxM (yo w) w.heap.size 39 nil4 nil4 nil4 nil4 zeroM:=heap_alloc_new w _
set_option maxRecDepth 100000 in
set_option maxHeartbeats 16000000 in
theorem vz (s:ByteArray) (w:World) (hl:Laid w) (hlf:Fl.Laid w):Calls Tryz.prog 10 #[.string s] w (ziG s w):=by
 have hb1:=(Below.refl w.heap.size w).alloc (Nat.le_refl _) (.cells #[.slice none 0 0,.slice none 0 0,.slice none 0 0,.slice none 0 0,.string emp,.string emp,.string emp,.string emp,.string emp] 33)
 have hx1:=Jh w
 obtain ⟨W1,hW1⟩:∃ W1,w.alloc (.cells #[.slice none 0 0,.slice none 0 0,.slice none 0 0,.slice none 0 0,.string ⟨#[]⟩,.string ⟨#[]⟩,.string ⟨#[]⟩,.string ⟨#[]⟩,.string ⟨#[]⟩] 33)=W1:=⟨_,rfl⟩
 have hW1':jg w=W1:=hW1
 rw [hW1'] at hx1
 rw [show w.alloc (.cells #[.slice none 0 0,.slice none 0 0,.slice none 0 0,.slice none 0 0,.string emp,.string emp,.string emp,.string emp,.string emp] 33)=W1 from hW1] at hb1
 have hb2:=(Below.refl W1.heap.size W1).alloc (Nat.le_refl _) (.cells #[.slice none 0 0,.slice none 0 0,.slice none 0 0,.slice none 0 0,.string emp,.string emp,.string emp,.string emp,.string emp] 39)
 have hx2:=K7 W1
 obtain ⟨W2,hW2⟩:∃ W2,W1.alloc (.cells #[.slice none 0 0,.slice none 0 0,.slice none 0 0,.slice none 0 0,.string ⟨#[]⟩,.string ⟨#[]⟩,.string ⟨#[]⟩,.string ⟨#[]⟩,.string ⟨#[]⟩] 39)=W2:=⟨_,rfl⟩
 have hW2':yo W1=W2:=hW2
 rw [hW2'] at hx2
 rw [show W1.alloc (.cells #[.slice none 0 0,.slice none 0 0,.slice none 0 0,.slice none 0 0,.string emp,.string emp,.string emp,.string emp,.string emp] 39)=W2 from hW2] at hb2
 have hlt:w.heap.size < W1.heap.size:=hx1.lt
 have HLT:=Lib.hid hlt
 have HB2:=Lib.hid (hb1.trans (hb2.mono hb1.size))
 have HX1:=Lib.hid (hx1.kept hb2)
 have HX2:=Lib.hid hx2
 have HL2:=Lib.hid (hl.below HB2.out (Nat.le_refl _))
 have HLF2:=Lib.hid (hlf.below HB2.out (Nat.le_refl _))
 clear hb1 hb2 hx1 hx2 hlt hW1' hW2' hl hlf
 go_enter Tryz.func10,Tryz.ntmps10
 by_cases hs:4000 < s.size
 ·go_wp2_with (first
   | (refine zi rfl 33 (.tmp 2) (.tmp 12) rfl w.heap.size nil4 nil4 nil4 nil4 nil4 nil4 nil4 nil4 zeroM zeroM 33 rfl rfl HX1.out jt (by kernel_rfl) ?_;intro w3 hb3 hg3;have HX3:=Lib.hid hb3;have HG3:=Lib.hid hg3;have HY3:Hid (BoxM w3 W1.heap.size 39 nil4 nil4 nil4 nil4 zeroM):=Lib.hid ((hg3.block _ HX2.out.lt (fun e0=>by have:=HLT.out;have:=Option.some.inj e0;omega)).trans HX2.out);clear hb3 hg3)
   | (refine zi rfl 39 (.tmp 3) (.tmp 13) rfl W1.heap.size nil4 nil4 nil4 nil4 nil4 nil4 nil4 nil4 zeroM zeroM 39 rfl rfl HY3.out jt (by kernel_rfl) ?_;intro w4 hb4 hg4;have HX4:=Lib.hid hb4;have HG4:=Lib.hid hg4;clear hb4 hg4)
   | fail)
  have HY4:Hid (BoxM w4 w.heap.size 33 nil4 nil4 nil4 nil4 zeroM):=Lib.hid ((HG4.out.block _ HX3.out.lt (fun e0=>by have:=HLT.out;have:=Option.some.inj e0;omega)).trans HX3.out)
  have HBF:=Lib.hid ((HB2.out.grown HG3.out HB2.out.size (fun j hj=>by cases hj;exact Nat.le_refl _)).grown HG4.out (HB2.out.grown HG3.out HB2.out.size (fun j hj=>by cases hj;exact Nat.le_refl _)).size (fun j hj=>by cases hj;have:=HLT.out;omega))
  have HZ:=Lib.hid (MastIn.zero w4)
  obtain ⟨c0,c1,c2,c3,c4,c5,c6,c7,c8⟩:=HY4.out.nine
  obtain ⟨d0,d1,d2,d3,d4,d5,d6,d7,d8⟩:=HX4.out.nine
  exact bodyPost_ret (v:=.tuple #[aggM nil4 nil4 nil4 nil4 zeroM,aggM nil4 nil4 nil4 nil4 zeroM,.bool false]) (by simp [results,Tryz.results10,go_sem,c0,c1,c2,c3,c4,c5,c6,c7,c8,d0,d1,d2,d3,d4,d5,d6,d7,d8]) rfl ⟨_,_,_,_,_,_,_,_,_,_,rfl,HZ.out,HZ.out,HBF.out,fun h=>by cases h⟩
 ·have HS:Hid (s.size≤4000):=Lib.hid (by omega)
  have HPA:=Lib.hid (fun W h1 h2=>Un.yc s W (by omega) h1 h2)
  have HPD:=Lib.hid (fun W=>zeu s W (by omega))
  have hpw:((parseM s).2=0∧Zw s (parseM s).1)∨(parseM s).2≠0:=by
   rcases VL s with ⟨M,h1,h2,h3,h4,h5⟩ | ⟨h1,h2⟩
   ·rw [h4];exact .inl ⟨rfl,h1,h2,h3,h5⟩
   ·exact .inr h2
  obtain ⟨M,hM⟩:∃ M,(parseM s).1=M:=⟨_,rfl⟩
  obtain ⟨n,hn⟩:∃ n,(parseM s).2=n:=⟨_,rfl⟩
  have hso:=zhO s
  rw [hM] at hso
  have HSO:=Lib.hid hso
  clear hso
  rw [hM,hn] at hpw
  simp only [hM,hn] at HPA HPD
  have HPW:=Lib.hid hpw
  clear hpw hM hn
  go_wp2_with fail
  clear hW1 hW2
  refine (HPA.out _ HL2.out HLF2.out).mono ?_
  rintro en w3 ⟨v3,rfl,⟨c,f,e,l,rfl,hm⟩,hb3⟩
  obtain ⟨pc,cc,pf,cf,pe,ce,pl,cl,rfl,rfl,rfl,rfl⟩:=shapes hm
  have hb4:=hb3.alloc hb3.size (.cells (cellsM (.slice pc M.chart.length cc) (.slice pf M.flows.length cf) (.slice pe M.ents.length ce) (.slice pl M.lines.length cl) M) 33)
  have HB4:=Lib.hid hb4
  have HM4:=Lib.hid (hm.keep ((Below.refl w3.heap.size w3).alloc (Nat.le_refl _) (.cells (cellsM (.slice pc M.chart.length cc) (.slice pf M.flows.length cf) (.slice pe M.ents.length ce) (.slice pl M.lines.length cl) M) 33)))
  have HN4:=Lib.hid (zM w3 (.slice pc M.chart.length cc) (.slice pf M.flows.length cf) (.slice pe M.ents.length ce) (.slice pl M.lines.length cl) M 33)
  have HSZ3:Hid (W2.heap.size≤w3.heap.size):=Lib.hid hb3.size
  clear hm hb3 hb4
  go_wp2_with fail
  refine (HPD.out _).mono ?_
  rintro en w5 ⟨v5,rfl,⟨c',f',e',l',rfl,hm'⟩,hb5⟩
  obtain ⟨pc',cc',pf',cf',pe',ce',pl',cl',rfl,rfl,rfl,rfl⟩:=shapes hm'
  have hb6:=hb5.alloc hb5.size (.cells (cellsM (.slice pc' M.chart.length cc') (.slice pf' M.flows.length cf') (.slice pe' M.ents.length ce') (.slice pl' M.lines.length cl') M) 39)
  have HB6:=Lib.hid (HB4.out.trans (hb6.mono HB4.out.size))
  have HM6:=Lib.hid (HM4.out.keep hb6)
  have HN6:=Lib.hid (HN4.out.kept hb6)
  have HM6':=Lib.hid (hm'.keep ((Below.refl w5.heap.size w5).alloc (Nat.le_refl _) (.cells (cellsM (.slice pc' M.chart.length cc') (.slice pf' M.flows.length cf') (.slice pe' M.ents.length ce') (.slice pl' M.lines.length cl') M) 39)))
  have HN6':=Lib.hid (zM w5 (.slice pc' M.chart.length cc') (.slice pf' M.flows.length cf') (.slice pe' M.ents.length ce') (.slice pl' M.lines.length cl') M 39)
  have HSZ5:Hid (W2.heap.size≤w5.heap.size):=Lib.hid (by have h1:=hb5.size;rw [World.size_alloc] at h1;have:=HSZ3.out;omega)
  clear hm' hb5 hb6 HM4 HN4 HB4
  obtain ⟨k0,k1,k2,k3,k4,k5,k6,k7,k8⟩:=HN6.out
  obtain ⟨j0,j1,j2,j3,j4,j5,j6,j7,j8⟩:=HN6'.out
  obtain ⟨is,his⟩:∃ b,decide (n=0)=b:=⟨_,rfl⟩
  have HIS:Hid (is=true→Zw s M∧s.size≤4000):=Lib.hid (fun h1=>by
   rw [←his] at h1
   rcases HPW.out with ⟨_,h2⟩ | h2
   ·exact ⟨h2,HS.out⟩
   ·exact absurd (of_decide_eq_true h1) h2)
  have hn0:(n==0)=is:=by rw [←his];by_cases h:n=0 <;> simp [h]
  clear his
  generalize hW6:w5.alloc (.cells (cellsM (.slice pc' M.chart.length cc') (.slice pf' M.flows.length cf') (.slice pe' M.ents.length ce') (.slice pl' M.lines.length cl') M) 39)=W6 at HB6 HM6 HN6 HM6' HN6' k0 k1 k2 k3 k4 k5 k6 k7 k8 j0 j1 j2 j3 j4 j5 j6 j7 j8
  have HX6:Hid (BoxM W6 w.heap.size 33 nil4 nil4 nil4 nil4 zeroM):=Lib.hid ((HB6.out.block _ HX1.out.lt).trans HX1.out)
  have HX6':Hid (BoxM W6 W1.heap.size 39 nil4 nil4 nil4 nil4 zeroM):=Lib.hid ((HB6.out.block _ HX2.out.lt).trans HX2.out)
  have hok1:w3.heap.size≠w.heap.size∧w3.heap.size≠W1.heap.size:=by have h1:=HX1.out.lt;have h2:=HX2.out.lt;have:=HSZ3.out;omega
  have hok2:w5.heap.size≠w.heap.size∧w5.heap.size≠W1.heap.size:=by have h1:=HX1.out.lt;have h2:=HX2.out.lt;have:=HSZ5.out;omega
  cases is
  all_goals
   go_wp2_with fail
   clear hW6
   have r0:=fun q:Leave (fun j=>j≠w.heap.size∧j≠W1.heap.size) W6=>zJ k0 hok1 q
   have t0:=fun q:Leave (fun j=>j≠w.heap.size∧j≠W1.heap.size) W6=>zJ j0 hok2 q
   have r1:=fun q:Leave (fun j=>j≠w.heap.size∧j≠W1.heap.size) W6=>zJ k1 hok1 q
   have t1:=fun q:Leave (fun j=>j≠w.heap.size∧j≠W1.heap.size) W6=>zJ j1 hok2 q
   have r2:=fun q:Leave (fun j=>j≠w.heap.size∧j≠W1.heap.size) W6=>zJ k2 hok1 q
   have t2:=fun q:Leave (fun j=>j≠w.heap.size∧j≠W1.heap.size) W6=>zJ j2 hok2 q
   have r3:=fun q:Leave (fun j=>j≠w.heap.size∧j≠W1.heap.size) W6=>zJ k3 hok1 q
   have t3:=fun q:Leave (fun j=>j≠w.heap.size∧j≠W1.heap.size) W6=>zJ j3 hok2 q
   have r4:=fun q:Leave (fun j=>j≠w.heap.size∧j≠W1.heap.size) W6=>zJ k4 hok1 q
   have t4:=fun q:Leave (fun j=>j≠w.heap.size∧j≠W1.heap.size) W6=>zJ j4 hok2 q
   have r5:=fun q:Leave (fun j=>j≠w.heap.size∧j≠W1.heap.size) W6=>zJ k5 hok1 q
   have t5:=fun q:Leave (fun j=>j≠w.heap.size∧j≠W1.heap.size) W6=>zJ j5 hok2 q
   have r6:=fun q:Leave (fun j=>j≠w.heap.size∧j≠W1.heap.size) W6=>zJ k6 hok1 q
   have t6:=fun q:Leave (fun j=>j≠w.heap.size∧j≠W1.heap.size) W6=>zJ j6 hok2 q
   have r7:=fun q:Leave (fun j=>j≠w.heap.size∧j≠W1.heap.size) W6=>zJ k7 hok1 q
   have t7:=fun q:Leave (fun j=>j≠w.heap.size∧j≠W1.heap.size) W6=>zJ j7 hok2 q
   have r8:=fun q:Leave (fun j=>j≠w.heap.size∧j≠W1.heap.size) W6=>zJ k8 hok1 q
   have t8:=fun q:Leave (fun j=>j≠w.heap.size∧j≠W1.heap.size) W6=>zJ j8 hok2 q
   clear k0 k1 k2 k3 k4 k5 k6 k7 k8 j0 j1 j2 j3 j4 j5 j6 j7 j8
   refine Zv (S:=fun w'=>∃ q:Leave (fun j=>j≠w.heap.size∧j≠W1.heap.size) W6,w'=q.its) (.one [0,1,2,3,4,5,6,7] 8 (.one [] 9 (.last [10]))) (by kernel_rfl) (by kernel_rfl) (fun d _ _ _ _ h=>by cases d <;> exact h) ⟨⟨W6.drew,fun _ _ _=>rfl⟩,rfl⟩ ?_
   obtain ⟨wz,hwz⟩:∃ wz,W6.drew=wz:=⟨_,rfl⟩
   rw [hwz]
   have HQ:Hid (Below W6.heap.size W6 wz):=Lib.hid (by rw [←hwz];exact ⟨rfl,rfl,rfl,Nat.le_refl _,fun _ _=>rfl⟩)
   clear hwz
   simp only [wpPlan,pick,nth]
   repeat (go_big_quiet_step (fail))
   refine wpQuiet_nil ?_
   clear r0 r1 r2 r3 r4 r5 r6 r7 r8 t0 t1 t2 t3 t4 t5 t6 t7 t8
   have HXZ:=Lib.hid (HX6.out.kept HQ.out)
   have HXZ':=Lib.hid (HX6'.out.kept HQ.out)
   have HMZ:=Lib.hid (HM6.out.keep HQ.out)
   have HMZ':=Lib.hid (HM6'.out.keep HQ.out)
   intro K hK
   refine ze (by kernel_rfl) ?_
   refine ZQ 33 (.tmp 2) (.tmp 24) rfl w.heap.size nil4 nil4 nil4 nil4 (.slice pc M.chart.length cc) (.slice pf M.flows.length cf) (.slice pe M.ents.length ce) (.slice pl M.lines.length cl) zeroM M 33 rfl rfl HXZ.out ⟨rfl,rfl,rfl,rfl⟩ (by kernel_rfl) ?_
   intro w7 hb7 hg7
   have HG7:=Lib.hid hg7
   have HB7:=Lib.hid hb7
   have HY7:Hid (BoxM w7 W1.heap.size 39 nil4 nil4 nil4 nil4 zeroM):=Lib.hid ((hg7.block _ HXZ'.out.lt (fun e0=>by have:=HLT.out;have:=Option.some.inj e0;omega)).trans HXZ'.out)
   have HKP7:Hid (∀ j,j≠w.heap.size→j < wz.heap.size→w7.heap[j]?=wz.heap[j]?):=Lib.hid (fun j h1 h2=>hg7.block j h2 (fun e0=>h1 (Option.some.inj e0)))
   refine hK _ _ (zN fun j hj hjl=>?_) ?_
   ·exact (HKP7.out j hj.1 (by have:=HQ.out.size;omega)).trans (HQ.out.block j hjl)
   clear hK K hb7 hg7
   simp only [Act.put]
   refine wpQuiet_nil ?_
   intro K hK
   refine ze (by kernel_rfl) ?_
   refine ZQ 39 (.tmp 3) (.tmp 25) rfl W1.heap.size nil4 nil4 nil4 nil4 (.slice pc' M.chart.length cc') (.slice pf' M.flows.length cf') (.slice pe' M.ents.length ce') (.slice pl' M.lines.length cl') zeroM M 39 rfl rfl HY7.out ⟨rfl,rfl,rfl,rfl⟩ (by kernel_rfl) ?_
   intro w8 hb8 hg8
   have HB8:=Lib.hid hb8
   have HKP8:Hid (∀ j,j≠w.heap.size→j≠W1.heap.size→j < wz.heap.size→w8.heap[j]?=wz.heap[j]?):=Lib.hid (fun j h1 h2 h3=>(hg8.block j (by have:=HG7.out.size;omega) (fun e0=>h2 (Option.some.inj e0))).trans (HKP7.out j h1 h3))
   have HY8:Hid (BoxM w8 w.heap.size 33 (.slice pc M.chart.length cc) (.slice pf M.flows.length cf) (.slice pe M.ents.length ce) (.slice pl M.lines.length cl) M):=Lib.hid ((hg8.block _ HB7.out.lt (fun e0=>by have:=HLT.out;have:=Option.some.inj e0;omega)).trans HB7.out)
   have hbz:=HB2.out.trans ((HB6.out.trans (HQ.out.mono HB6.out.size)).mono HB2.out.size)
   have hbz7:=hbz.grown HG7.out hbz.size (fun j hj=>by cases hj;exact Nat.le_refl _)
   have HBF:=Lib.hid (hbz7.grown hg8 hbz7.size (fun j hj=>by cases hj;have:=HLT.out;omega))
   have HMF:=Lib.hid (XY HXZ.out HXZ'.out HMZ.out HSO.out HKP8.out)
   have HMF':=Lib.hid (XY HXZ.out HXZ'.out HMZ'.out HSO.out HKP8.out)
   refine hK _ _ (zN fun j hj hjl=>?_) ?_
   ·exact (HKP8.out j hj.1 hj.2 (by have:=HQ.out.size;omega)).trans (HQ.out.block j hjl)
   clear hK K hb8 hg8 hbz hbz7
   simp only [Act.put]
   repeat (go_big_quiet_step (fail))
   refine wpQuiet_nil ?_
   go_wp2
   obtain ⟨c0,c1,c2,c3,c4,c5,c6,c7,c8⟩:=HY8.out.nine
   obtain ⟨d0,d1,d2,d3,d4,d5,d6,d7,d8⟩:=HB8.out.nine
   first
    | exact bodyPost_ret (v:=.tuple #[aggM (.slice pc M.chart.length cc) (.slice pf M.flows.length cf) (.slice pe M.ents.length ce) (.slice pl M.lines.length cl) M,aggM (.slice pc' M.chart.length cc') (.slice pf' M.flows.length cf') (.slice pe' M.ents.length ce') (.slice pl' M.lines.length cl') M,.bool true]) (by simp [results,Tryz.results10,go_sem,c0,c1,c2,c3,c4,c5,c6,c7,c8,d0,d1,d2,d3,d4,d5,d6,d7,d8]) rfl ⟨_,_,_,_,_,_,_,_,_,_,rfl,HMF.out,HMF'.out,HBF.out,fun _=>HIS.out (by first | trivial | rfl)⟩
    | exact bodyPost_ret (v:=.tuple #[aggM (.slice pc M.chart.length cc) (.slice pf M.flows.length cf) (.slice pe M.ents.length ce) (.slice pl M.lines.length cl) M,aggM (.slice pc' M.chart.length cc') (.slice pf' M.flows.length cf') (.slice pe' M.ents.length ce') (.slice pl' M.lines.length cl') M,.bool false]) (by simp [results,Tryz.results10,go_sem,c0,c1,c2,c3,c4,c5,c6,c7,c8,d0,d1,d2,d3,d4,d5,d6,d7,d8]) rfl ⟨_,_,_,_,_,_,_,_,_,_,rfl,HMF.out,HMF'.out,HBF.out,fun h=>(by cases h)⟩
end Go.Proofs.YtdhfpgjnjlcciaaGreatDoor.Pk
end
