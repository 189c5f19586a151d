/- CsMem LexRlines CsParse -/
import Derived.Test.YthcpglnmhimepaaGreatDoorS37
section
namespace Go.Proofs.YthcpglnmhimepaaGreatDoor.Cs
open Go.RowKit Go.Proofs.YthcpglnmhimepaaGreatDoor.Un Go.Proofs.YthcpglnmhimepaaGreatDoor.Pk
theorem infoX:InfoE Tryz.prog 45 90 encX:=.of (z:=.agg #[.string ⟨#[]⟩,.string ⟨#[]⟩,.string ⟨#[]⟩,.int .i64 0,.int .i64 0]) (n:=64) Tryz.underlying45 (by kernel_rfl) rfl (by decide)
def ltW:List ByteArray→List ByteArray→Bool
 | [],[]=>false
 | [],_::_=>true
 | _::_,[]=>false
 | x::a,y::b=>if x=y then ltW a b else ltS x y
def Fit (x:Crs):Prop:=x.sort≠tFlow→x.flw=emp
theorem ltW_cons (x y:ByteArray) (a b:List ByteArray):ltW (x::a) (y::b)=if x=y then ltW a b else ltS x y:=rfl
theorem ltT_words {x y:Crs} (hx:Fit x) (hy:Fit y):ltW (wordsK x) (wordsK y)=ltT x.key y.key:=by
 obtain ⟨xs,xf,xc,xn,xd⟩:=x
 obtain ⟨ys,yf,yc,yn,yd⟩:=y
 unfold Fit at hx hy
 simp only at hx hy
 unfold wordsK ltT G.ltP Crs.key
 simp only
 by_cases hs:xs=ys
 ·subst hs
  by_cases hf:xs=tFlow
  ·subst hf
   simp only [if_true,ltW_cons,ltS_irr]
   by_cases h1:xf=yf
   ·subst h1
    by_cases h2:xc=yc
    ·subst h2;simp [ltW,ltS_irr]
    ·simp [h2,ltS_irr]
   ·simp [h1]
  ·rw [if_neg hf,if_neg hf,hx hf,hy hf]
   simp only [if_true,ltW_cons,ltS_irr]
   by_cases h2:xc=yc
   ·subst h2;simp [ltW,ltS_irr]
   ·simp [h2]
 ·have e:∀ a b:List ByteArray,ltW (xs::a) (ys::b)=ltS xs ys:=fun a b=>by rw [ltW_cons,if_neg hs]
  have r:(ltS xs ys || (decide (xs=ys) && (ltS xf yf || (decide (xf=yf) && ltS xc yc))))=ltS xs ys:=by simp [hs]
  rw [r]
  split <;> split <;> exact e _ _
theorem ltW_drop {a b:List ByteArray} {i:Nat} (h:a.take i=b.take i) (ha:i≤a.length) (hb:i≤b.length):ltW a b=ltW (a.drop i) (b.drop i):=by
 induction i generalizing a b with
 | zero=>rfl
 | succ i ih =>
   match a,b,ha,hb with
   | x::a,y::b,ha,hb =>
     simp only [List.take_succ_cons,List.cons.injEq] at h
     rw [ltW_cons,if_pos h.1,List.drop_succ_cons,List.drop_succ_cons]
     exact ih h.2 (by simpa using ha) (by simpa using hb)
theorem ltW_end {a b:List ByteArray} (h:a=[]∨b=[]):ltW a b=decide (a.length < b.length):=by
 rcases h with rfl | rfl
 ·cases b <;> simp [ltW]
 ·cases a <;> simp [ltW]
set_option maxRecDepth 100000 in
set_option maxHeartbeats 4000000 in
theorem before_any (va vb:Value) (a b:List ByteArray) (w:World) (hA:StrsV w va a) (hB:StrsV w vb b) (hla:a.length≤1000) (hlb:b.length≤1000) :
 Calls Tryz.prog 28 #[va,vb] w fun e w'=>e=.returned (.bool (ltW a b))∧Below w.heap.size w w':=by
 obtain ⟨pa,ca,rfl,_,hma,hca⟩:=hA
 obtain ⟨pb,cb,rfl,_,hmb,hcb⟩:=hB
 obtain ⟨n,hn⟩:∃ n,a.length=n:=⟨_,rfl⟩
 obtain ⟨m,hm⟩:∃ m,b.length=m:=⟨_,rfl⟩
 obtain ⟨r,hr⟩:∃ r,ltW a b=r:=⟨_,rfl⟩
 rw [hn] at hla ⊢
 rw [hm] at hlb ⊢
 rw [hr]
 have HA:=Lib.hid hca
 have HB:=Lib.hid hcb
 have HN:=Lib.hid hn
 have HM:=Lib.hid hm
 have HR:=Lib.hid hr
 clear hca hcb hn hm hr hma hmb
 go_enter Tryz.func28,Tryz.ntmps28
 go_wp2
 go_loopw [5] (fun s5 wr=>∃ i:Nat,s5=.int .i64 (i:Int)∧i≤n∧i≤m∧Hid (a.take i=b.take i)∧Hid (Below w.heap.size w wr)) (fun s5 _=>n - (intOf s5).toNat)
 case atStart=>exact ⟨0,rfl,Nat.zero_le _,Nat.zero_le _,Lib.hid rfl,Lib.hid (Below.refl _ _)⟩
 case round =>
  obtain ⟨i,rfl,hi,hj,HO,HBW⟩:=hrel
  by_cases h1:i < n
  ·by_cases h2:i < m
   ·obtain ⟨x,hx⟩:∃ x,a[i]?=some x:=⟨_,List.getElem?_eq_getElem (by rw [HN.out];exact h1)⟩
    obtain ⟨y,hy⟩:∃ y,b[i]?=some y:=⟨_,List.getElem?_eq_getElem (by rw [HM.out];exact h2)⟩
    obtain ⟨b1,o1,e1,d1⟩:=HA.out i _ hx
    obtain ⟨b2,o2,e2,d2⟩:=HB.out i _ hy
    cases e1
    cases e2
    have k1:=(HBW.out.cell (World.block_lt_of_cell? w _ d1)).trans d1
    have k2:=(HBW.out.cell (World.block_lt_of_cell? w _ d2)).trans d2
    have HX:=Lib.hid (And.intro hx hy)
    clear hx hy d1 d2
    have g1:(i:Int) < (n:Int):=by omega
    have g2:(i:Int) < (m:Int):=by omega
    cases hxy:(x.toList==y.toList) with
    | true =>
      have HXE:=Lib.hid ((Lib.bytes_beq_iff x y).1 hxy)
      have HT:Hid (a.take (i+1)=b.take (i+1)):=Lib.hid (by rw [List.take_add_one,List.take_add_one,HO.out,HX.out.1,HX.out.2,HXE.out])
      go_wp2_with fail
      go_big_quiet (fail)
      have HB3:=Lib.hid (Fa.belowN HBW.out nq)
      clear k1 k2 hxy
      go_wp2
      go_roundw
      case rel=>exact ⟨i+1,by go_num,by omega,by omega,HT,HB3⟩
      case measure=>simp [intOf];omega
    | false =>
      have HXE:=Lib.hid ((Lib.bytes_beq_false_iff x y).1 hxy)
      have HRR:Hid (Op.bytesLess x.toList y.toList=r):=Lib.hid (by
       have h3:=ltW_drop HO.out (by rw [HN.out];exact hi) (by rw [HM.out];exact hj)
       rw [HR.out,drop_of HX.out.1,drop_of HX.out.2,ltW_cons,if_neg HXE.out] at h3
       exact h3.symm)
      go_wp2_with fail
      go_big_quiet (fail)
      have HB3:=Lib.hid (Fa.belowN HBW.out nq)
      have k3:(wr.drewN nq).cell? _=_:=k1
      have k4:(wr.drewN nq).cell? _=_:=k2
      clear k1 k2 hxy
      generalize wr.drewN nq=wq at *
      go_wp2_with fail
      go_big_quiet (fail)
      have HB4:=Lib.hid (Fa.belowN HB3.out nq)
      go_wp2
      go_ret
      exact ⟨by first | rfl | (rw [HRR.out];rfl) | rw [HRR.out],HB4.out⟩
   ·obtain rfl:i=m:=by omega
    have HRR:Hid (decide (n < i)=r):=Lib.hid (by
     have h3:=ltW_drop HO.out (by rw [HN.out];exact hi) (by rw [HM.out];exact hj)
     rw [HR.out,ltW_end (.inr (List.drop_of_length_le (by rw [HM.out];exact Nat.le_refl _)))] at h3
     rw [h3]
     simp only [List.length_drop,HN.out,HM.out]
     rw [decide_eq_false (by omega),decide_eq_false (by omega)])
    go_wp2
    go_ret
    exact ⟨ret_bool HRR.out,HBW.out⟩
  ·obtain rfl:i=n:=by omega
   have HRR:Hid (decide (i < m)=r):=Lib.hid (by
    have h3:=ltW_drop HO.out (by rw [HN.out];exact hi) (by rw [HM.out];exact hj)
    rw [HR.out,ltW_end (.inl (List.drop_of_length_le (by rw [HN.out];exact Nat.le_refl _)))] at h3
    rw [h3]
    simp only [List.length_drop,HN.out,HM.out]
    rcases Nat.lt_or_ge i m with h | h
    ·rw [decide_eq_true (by omega),decide_eq_true (by omega)]
    ·rw [decide_eq_false (by omega),decide_eq_false (by omega)])
   go_wp2
   go_ret
   exact ⟨ret_bool HRR.out,HBW.out⟩
end Go.Proofs.YthcpglnmhimepaaGreatDoor.Cs
end
section
namespace Go.Proofs.YthcpglnmhimepaaGreatDoor
open Go.RowKit
theorem LinesHad.post {w:World} {L:List (Int × List ByteArray)} {c:Int} {e:Ending} {w':World} (h:LinesHad w L c e w'):LinesPost w L c e w':=by
 obtain ⟨v,LV,he,h1,h2,hb⟩:=h
 exact ⟨v,he,lines_of_in h1 h2.isIn,hb⟩
theorem rlines_any (s:ByteArray) (w:World) (hs:s.size≤30000) :
 Calls Tryz.prog 18 #[.string s] w (LinesPost w (asB (linV s.data.toList)) (linE s.data.toList)) :=
 (rlines_had s w hs).mono fun _ _ h=>h.post
end Go.Proofs.YthcpglnmhimepaaGreatDoor
end
section
namespace Go.Proofs.YthcpglnmhimepaaGreatDoor.Cs
open Go.RowKit Go.Proofs.YthcpglnmhimepaaGreatDoor.Un Go.Proofs.YthcpglnmhimepaaGreatDoor.Pk
theorem fit_read (ws:List ByteArray):Fit (readV ws):=fun h=>if_neg h
theorem ins_keep {α κ:Type} [G.KeyO κ] {E:Enc α} {key:α→κ} {e:TypeId} {W0 wr w':World} {L:List α} {x:α} {i:Nat} {s6:Value} (h:InsAt E key e W0 wr L x i s6) (hb:Below wr.heap.size wr w'):InsAt E key e W0 w' L x i s6:=⟨row_below h.own hb,h.bel.trans (hb.mono h.bel.size),h.no⟩
def TabTold (w:World) (P:List Crs × Int) (e:Ending) (w':World):Prop:=∃ v,e=.returned (.tuple #[v,.int .i64 P.2])∧TabV w' v P.1∧Below w.heap.size w w'
structure CPAt (M:Mast) (W0 wr:World) (i:Nat) (l:List (List ByteArray)) (v:Value) (N:List Crs):Prop where
 tab:TabV wr v N
 run:runC M [] l=runC M N (l.drop i)
 few:N.length≤500
 rise:G.riseK Crs.key N=true
 fit:∀ x∈N,Fit x
 bel:Below W0.heap.size W0 wr
theorem mem_insK {N:List Crs} {x z:Crs} (h:z∈G.insK Crs.key N x):z=x∨z∈N:=by
 have:=(G.ins_perm N x (key:=Crs.key)).mem_iff.1 h
 simpa using this
set_option maxRecDepth 100000 in
set_option maxHeartbeats 16000000 in
theorem cparse_any (c f e l:Value) (M:Mast) (s:ByteArray) (w:World) (hm:MastIn w c f e l M) (hs:s.size≤29000) :
 Calls Tryz.prog 13 #[aggM c f e l M,.string s] w (TabTold w (parseC M s)):=by
 obtain ⟨pc,cc,pf,cf,pe,ce,pl,cl,rfl,rfl,rfl,rfl⟩:=shapes hm
 have hb0:=(Below.refl w.heap.size w).alloc (Nat.le_refl _) (.cells (cellsM (.slice pc M.chart.length cc) (.slice pf M.flows.length cf) (.slice pe M.ents.length ce) (.slice pl M.lines.length cl) M) 36)
 have hn0:=nine_new w (.slice pc M.chart.length cc) (.slice pf M.flows.length cf) (.slice pe M.ents.length ce) (.slice pl M.lines.length cl) M 36
 obtain ⟨W1,hW1⟩:∃ W1,w.alloc (.cells (cellsM (.slice pc M.chart.length cc) (.slice pf M.flows.length cf) (.slice pe M.ents.length ce) (.slice pl M.lines.length cl) M) 36)=W1:=⟨_,rfl⟩
 rw [hW1] at hb0 hn0
 have HB1:=Lib.hid hb0
 have HN1:=Lib.hid hn0
 have HM1:=Lib.hid (hm.keep hb0)
 have HLN:=Lib.hid (rlines_any s W1 (by omega))
 have HWS:=Lib.hid (fun ws (h:ws∈wordsT s)=>word_size h)
 have HWL:=Lib.hid (fun ws (h:ws∈wordsT s)=>words_few h)
 have hpm:parseC M s=if linE s.data.toList=0 then runC M [] (wordsT s) else ([],linE s.data.toList):=rfl
 obtain ⟨L,hL⟩:∃ L,asB (linV s.data.toList)=L:=⟨_,rfl⟩
 have hWT:wordsT s=L.map (·.2):=by unfold wordsT;rw [hL]
 rw [hWT] at hpm HWS HWL
 have hLL:L.length≤30001:=by
  rw [←hL,asB_length]
  unfold linV
  split
  ·simp
  ·split
   ·unfold linesL
    have h1:=numP_length (enumL 1 (linesGo [] s.data.toList))
    rw [enumL_length] at h1
    have h2:=linesGo_length [] s.data.toList
    rw [size_list] at h2
    omega
   ·simp
 obtain ⟨e0,he0⟩:∃ e0,linE s.data.toList=e0:=⟨_,rfl⟩
 rw [he0] at hpm HLN
 rw [hL] at HLN
 obtain ⟨P,hP⟩:∃ P,parseC M s=P:=⟨_,rfl⟩
 rw [hP]
 have HPR:Hid (P=if e0=0 then runC M [] (L.map (·.2)) else ([],e0)):=Lib.hid (by rw [←hpm,hP])
 have HS:=Lib.hid hs
 clear hpm hL hWT he0 hP hb0 hn0 hm hs
 go_enter Tryz.func13,Tryz.ntmps13
 go_wp2_with fail
 clear hW1
 refine HLN.out.mono ?_
 rintro en w2 ⟨v2,rfl,hlv,hb2⟩
 have HB2:=Lib.hid (HB1.out.trans (hb2.mono HB1.out.size))
 have HN2:=Lib.hid (HN1.out.kept hb2)
 have HM2:=Lib.hid (HM1.out.keep hb2)
 clear hb2 HB1 HN1 HM1
 obtain ⟨p,cp,rfl,hmx,hc⟩:=hlv
 have HC:=Lib.hid hc
 clear hc
 by_cases h0:e0=0
 rotate_left
 ·have HPF:Hid (P=([],e0)):=Lib.hid (by rw [HPR.out,if_neg h0])
  have h0':(e0 != 0)=true:=by simp [h0]
  clear h0
  go_wp2
  go_ret2
  exact ⟨_,by rw [HPF.out];rfl,by rw [HPF.out];exact ElsV.nil _,HB2.out⟩
 subst h0
 have HPR2:Hid (P=runC M [] (L.map (·.2))):=Lib.hid (by rw [HPR.out,if_pos rfl])
 clear HPR
 obtain ⟨n,hn⟩:∃ n,L.length=n:=⟨_,rfl⟩
 rw [hn] at hLL ⊢
 have HN:=Lib.hid hn
 have HI:=Lib.hid infoX
 have HST:Hid (∃ N,CPAt M w2 w2 0 (L.map (·.2)) (.slice none 0 0) N):=Lib.hid ⟨[],ElsV.nil _,rfl,by simp,rfl,fun x hx=>(by cases hx),Below.refl _ _⟩
 clear hn hmx
 go_wp2
 go_loopw [8,9] (fun s8 s9 wr=>∃ (i:Nat) (v8:Value),i≤n∧s9=.int .i64 (i:Int)∧v8=s8∧Hid (∃ N,CPAt M w2 wr i (L.map (·.2)) v8 N)) (fun _ s9 _=>n - (intOf s9).toNat)
 case atStart=>exact ⟨0,_,Nat.zero_le _,rfl,rfl,HST⟩
 case round =>
  obtain ⟨i,v8,hi,rfl,rfl,HPA⟩:=hrel
  obtain ⟨N,hpa⟩:=HPA.out
  have HP:=Lib.hid hpa
  clear hpa HPA HST
  by_cases hlt:i < n
  ·obtain ⟨⟨ln,ws⟩,hx⟩:∃ x,L[i]?=some x:=⟨_,List.getElem?_eq_getElem (by rw [HN.out];exact hlt)⟩
   obtain ⟨b,o,u,rfl,d0,d1,hu⟩:=HC.out i _ hx
   dsimp only at d0 d1 hu
   have hwx:(L.map (·.2))[i]?=some ws:=by rw [List.getElem?_map,hx];rfl
   have hmem:=List.mem_of_getElem? hwx
   have HWX:=Lib.hid hwx
   have hwz:∀ y∈ws,y.size≤900000:=fun y hy=>by have:=HWS.out ws hmem y hy;have:=HS.out;omega
   have hwl:ws.length≤30000:=by have:=HWL.out ws hmem;have:=HS.out;omega
   have HBR:Hid (Below w2.heap.size w2 wr):=Lib.hid HP.out.bel
   have e1:=(HBR.out.cell (World.block_lt_of_cell? w2 _ d1)).trans d1
   have HRD:=Lib.hid (read_any u ws wr (hu.keep HBR.out) hwl hwz)
   obtain ⟨pu,cu,rfl,_,_,_⟩:=id hu
   obtain ⟨nw,hnw⟩:∃ nw,ws.length=nw:=⟨_,rfl⟩
   rw [hnw] at e1 HRD
   obtain ⟨R,hR⟩:∃ R,readE ws=R:=⟨_,rfl⟩
   rw [hR] at HRD
   have HRR:=Lib.hid hR
   clear hR hx hwx hmem hwz hwl d0 d1 hu hnw
   go_wp2_with fail
   clear e1
   refine HRD.out.mono ?_
   rintro en w3 ⟨y,rfl,hy,hb3⟩
   have HXE:=Lib.hid hy
   obtain ⟨xs,xf,xc,xn,xd⟩:=y
   have HB3:=Lib.hid (HBR.out.trans (hb3.mono HBR.out.size))
   have hb4:=(Below.refl w3.heap.size w3).alloc (Nat.le_refl _) (.cells (encX.cs (⟨xs,xf,xc,xn,xd⟩:Crs)).toArray 90)
   have hx4:=BoxE.new encX w3 (⟨xs,xf,xc,xn,xd⟩:Crs) 90
   have HX4:=Lib.hid hx4
   have HB4:=Lib.hid (HB3.out.trans (hb4.mono HB3.out.size))
   have HT4:=Lib.hid ((HP.out.tab.keep hb3).keep hb4)
   clear hy hb3 hb4 hx4 HRD
   by_cases hR0:R=0
   rotate_left
   ·have h1:(R != 0)=true:=by simp [hR0]
    have HPF:Hid (P=([],R)):=Lib.hid (by
     have hs:stepE M N ws=R:=by unfold stepE;rw [if_neg (by rw [HRR.out];exact hR0),HRR.out]
     rw [HPR2.out,HP.out.run,drop_run HWX.out,if_neg (by rw [hs];exact hR0),hs])
    clear hR0
    go_wp2
    go_ret2
    exact ⟨_,by rw [HPF.out];rfl,by rw [HPF.out];exact ElsV.nil _,HB2.out.trans (HB4.out.mono HB2.out.size)⟩
   subst hR0
   have HXV:Hid (readV ws=(⟨xs,xf,xc,xn,xd⟩:Crs)):=Lib.hid (HXE.out rfl)
   clear HXE
   have hfew:=HP.out.few
   have HRG:=Lib.hid (fun W (hM:MastIn W _ _ _ _ M) (hT:TabV W v8 N)=>right_any (.slice pc M.chart.length cc) (.slice pf M.flows.length cf) (.slice pe M.ents.length ce) (.slice pl M.lines.length cl) v8 M N (⟨xs,xf,xc,xn,xd⟩:Crs) W hM hT (Nat.le_trans hfew (by decide)))
   have HRS:Hid (stepE M N ws=rightE M N (⟨xs,xf,xc,xn,xd⟩:Crs)):=Lib.hid (by unfold stepE;rw [if_pos HRR.out,HXV.out])
   obtain ⟨G,hG⟩:∃ G,rightE M N (⟨xs,xf,xc,xn,xd⟩:Crs)=G:=⟨_,rfl⟩
   rw [hG] at HRG HRS
   have HGG:=Lib.hid hG
   obtain ⟨W4,hW4⟩:∃ W4,w3.alloc (.cells #[.string xs,.string xf,.string xc,.int .i64 xn,.int .i64 xd] 90)=W4:=⟨_,rfl⟩
   have hx4:BoxE encX W4 w3.heap.size 90 (⟨xs,xf,xc,xn,xd⟩:Crs):=by rw [←hW4];exact HX4.out
   have hb4:Below w2.heap.size w2 W4:=by rw [←hW4];exact HB4.out
   have ht4:TabV W4 v8 N:=by rw [←hW4];exact HT4.out
   clear HX4 HB4 HT4 hG
   have HX4:=Lib.hid hx4
   have HB4:=Lib.hid hb4
   have HT4:=Lib.hid ht4
   obtain ⟨k0,k1,k2,k3,k4,k5,k6,k7,k8⟩:=(HN2.out.kept hb4)
   obtain ⟨x0,x1,x2,x3,x4⟩:=crs5 hx4.at0
   simp only [Nat.zero_add] at x0 x1 x2 x3 x4
   clear hx4 hb4 ht4
   go_wp2_with fail
   clear k0 k1 k2 k3 k4 k5 k6 k7 k8 x0 x1 x2 x3 x4
   clear hW4
   refine (HRG.out W4 (HM2.out.keep HB4.out) HT4.out).mono ?_
   rintro en w5 ⟨rfl,hb5⟩
   have HX5:=Lib.hid (HX4.out.kept hb5)
   have HB5:=Lib.hid (HB4.out.trans (hb5.mono HB4.out.size))
   have HT5:=Lib.hid (HT4.out.keep hb5)
   clear hb5 HX4 HT4 HRG
   by_cases hG0:G=0
   rotate_left
   ·have h1:(G != 0)=true:=by simp [hG0]
    have HPF:Hid (P=([],G)):=Lib.hid (by rw [HPR2.out,HP.out.run,drop_run HWX.out,if_neg (by rw [HRS.out];exact hG0),HRS.out])
    clear hG0
    go_wp2
    go_ret2
    exact ⟨_,by rw [HPF.out];rfl,by rw [HPF.out];exact ElsV.nil _,HB2.out.trans (HB5.out.mono HB2.out.size)⟩
   subst hG0
   have hfz:G.findK Crs.key N ((⟨xs,xf,xc,xn,xd⟩:Crs)).key=none∧N.length < 500:=by
    have:=step_zero.1 HRS.out
    rw [HXV.out] at this
    exact this.2
   have HNO:Hid (∀ (j:Nat) (y:Crs),N[j]?=some y→y.key≠((⟨xs,xf,xc,xn,xd⟩:Crs)).key):=Lib.hid fun j y hy=>G.findK_no hfz.1 y (List.mem_of_getElem? hy)
   have HFI:Hid (Fit (⟨xs,xf,xc,xn,xd⟩:Crs)):=Lib.hid (by rw [←HXV.out];exact fit_read ws)
   have HINS:Hid (G.insR Crs.key N (⟨xs,xf,xc,xn,xd⟩:Crs)=G.insK Crs.key N (⟨xs,xf,xc,xn,xd⟩:Crs)):=Lib.hid (G.insR_eq HP.out.rise hfz.1)
   have HCP:Hid (∀ (w':World) (v':Value),TabV w' v' (G.insR Crs.key N (⟨xs,xf,xc,xn,xd⟩:Crs))→Below w2.heap.size w2 w'→∃ K,CPAt M w2 w' (i+1) (L.map (·.2)) v' K):=Lib.hid fun w' v' hv hb=>⟨G.insR Crs.key N (⟨xs,xf,xc,xn,xd⟩:Crs),hv,by
    rw [HP.out.run,drop_run HWX.out,if_pos HRS.out,HXV.out,HINS.out],by rw [G.insR_length];exact hfz.2,by
    rw [HINS.out];exact G.riseK_ins _ _ HP.out.rise hfz.1,fun z hz=>by
    rw [HINS.out] at hz
    rcases mem_insK hz with rfl | hz
    ·exact HFI.out
    ·exact HP.out.fit z hz,hb⟩
   obtain ⟨m,hm⟩:∃ m,N.length=m:=⟨_,rfl⟩
   have hm5:m≤1000:=by rw [←hm];omega
   have HNM:=Lib.hid hm
   obtain ⟨pt,ct,rfl,hct,hmt,_,_⟩:=id HT5.out
   rw [hm] at hct HT5
   clear hfz hfew
   have HST:Hid (InsAt encX Crs.key 90 w5 w5 N (⟨xs,xf,xc,xn,xd⟩:Crs) 0 (.slice none 0 0)):=Lib.hid ⟨World.ownsRow_nil _ _ _ _,Below.refl _ _,fun j y hj=>absurd hj (Nat.not_lt_zero _)⟩
   rw [hm]
   clear hm
   unfold maxLen at hmt
   go_wp2
   go_loopw [13,14,15] (fun s13 s14 s15 wr=>∃ (k:Nat) (v6:Value),k≤m∧s15=.int .i64 (k:Int)∧v6=s13∧s14=.bool (G.doneR Crs.key (N.take k) (⟨xs,xf,xc,xn,xd⟩:Crs))∧Hid (InsAt encX Crs.key 90 w5 wr N (⟨xs,xf,xc,xn,xd⟩:Crs) k v6)) (fun _ _ s15 _=>m - (intOf s15).toNat)
   case atStart=>exact ⟨0,_,Nat.zero_le _,rfl,rfl,rfl,HST⟩
   case round =>
    obtain ⟨k,v6,hk,rfl,rfl,rfl,HA⟩:=hrel
    by_cases hkm:k < m
    ·obtain ⟨y,hy⟩:∃ y,N[k]?=some y:=⟨_,List.getElem?_eq_getElem (by rw [HNM.out];exact hkm)⟩
     obtain ⟨bb,oo,eo,hat⟩:=Fa.ElsV.at_ HT5.out hy
     cases eo
     simp only [show encX.k=5 from rfl] at hat
     have HFY:=Lib.hid (HP.out.fit y (List.mem_of_getElem? hy))
     have HLW:=Lib.hid (ltT_words HFI.out HFY.out)
     obtain ⟨ys,yf,yc,yn,yd⟩:=y
     have HAT:=Lib.hid hat
     have HTK:Hid (N.take (k+1)=N.take k++[(⟨ys,yf,yc,yn,yd⟩:Crs)]):=Lib.hid (by rw [List.take_succ_eq_append_getElem (by rw [HNM.out];exact hkm),(List.getElem?_eq_some_iff.1 hy).2])
     have HNY:Hid (((⟨ys,yf,yc,yn,yd⟩:Crs)).key≠((⟨xs,xf,xc,xn,xd⟩:Crs)).key):=Lib.hid (HNO.out k _ hy)
     have HY:=Lib.hid hy
     obtain ⟨D,hD⟩:∃ D,G.doneR Crs.key (N.take k) (⟨xs,xf,xc,xn,xd⟩:Crs)=D:=⟨_,rfl⟩
     have HD:=Lib.hid hD
     rw [hD]
     obtain ⟨d0,d1,d2,d3,d4⟩:=crs5 (hat.keep HA.out.bel hat.lt)
     obtain ⟨q0,q1,q2,q3,q4⟩:=crs5 ((HX5.out.keep HA.out.bel HX5.out.lt).at0)
     simp only [Nat.zero_add] at q0 q1 q2 q3 q4
     clear hy hat hD
     cases D with
     | true =>
       have r0:=fun p:Past wr=>cell_past d0 p
       have s0:=fun p:Past wr=>cell_past q0 p
       have r1:=fun p:Past wr=>cell_past d1 p
       have s1:=fun p:Past wr=>cell_past q1 p
       have r2:=fun p:Past wr=>cell_past d2 p
       have s2:=fun p:Past wr=>cell_past q2 p
       have r3:=fun p:Past wr=>cell_past d3 p
       have s3:=fun p:Past wr=>cell_past q3 p
       have r4:=fun p:Past wr=>cell_past d4 p
       have s4:=fun p:Past wr=>cell_past q4 p
       go_wp2_with fail
       refine wp_region_plan (.one [0,1,2,3,5,6,7,8] 4 (.one [] 9 (.one [] 10 (.last [11])))) (by kernel_rfl) (by kernel_rfl) (fun d _ _ _ _ h=>by cases d <;> exact h) ?_
       obtain ⟨wq,hwq⟩:∃ wq,wr.drew=wq:=⟨_,rfl⟩
       rw [hwq]
       have HD0:Hid (Below wr.heap.size wr wq):=Lib.hid (by rw [←hwq];exact ⟨rfl,rfl,rfl,Nat.le_refl _,fun _ _=>rfl⟩)
       clear hwq
       simp only [wpPlan,pick,nth]
       repeat (go_big_quiet_step (fail))
       refine wpQuiet_nil ?_
       clear r0 r1 r2 r3 r4 s0 s1 s2 s3 s4 d0 d1 d2 d3 d4 q0 q1 q2 q3 q4
       intro K hK
       refine alone_skip (by kernel_rfl) ?_
       refine hK _ _ (past_in HD0.out) ?_
       clear hK K
       refine wpQuiet_nil ?_
       intro K hK
       refine alone_skip (by kernel_rfl) ?_
       refine hK _ _ (past_in HD0.out) ?_
       clear hK K
       refine wpQuiet_nil ?_
       intro K hK
       refine alone_skip (by kernel_rfl) ?_
       refine hK _ _ (past_in HD0.out) ?_
       clear hK K
       simp only [Act.put,List.setIfInBounds_toArray,List.set_cons_zero,List.set_cons_succ]
       repeat (go_big_quiet_step (fail))
       refine wpQuiet_nil ?_
       have HA2:=Lib.hid (ins_keep HA.out HD0.out)
       clear HD0 HA
       obtain ⟨d0,d1,d2,d3,d4⟩:=crs5 (HAT.out.keep HA2.out.bel HAT.out.lt)
       obtain ⟨q0,q1,q2,q3,q4⟩:=crs5 ((HX5.out.keep HA2.out.bel HX5.out.lt).at0)
       simp only [Nat.zero_add] at q0 q1 q2 q3 q4
       have HB6:=Lib.hid ((Below.refl wq.heap.size wq).alloc (Nat.le_refl _) (.cells (encX.cs (⟨ys,yf,yc,yn,yd⟩:Crs)).toArray 90))
       go_wp2_with (at_builtin;refine wpList_append_el (E:=encX) rfl _ _ 45 90 rfl HI.out w5.heap.size _ (⟨ys,yf,yc,yn,yd⟩:Crs) wq.heap.size (HA2.out.own.alloc _) rfl (el_new encX wq (⟨ys,yf,yc,yn,yd⟩:Crs) _) (by have:=HA2.out.bel.size;simp;omega) (mid_small HNM.out hm5) ?_;intro v9 w9 hr9 hb9 hg9)
       have HA9:Hid (InsAt encX Crs.key 90 w5 w9 N (⟨xs,xf,xc,xn,xd⟩:Crs) (k+1) v9):=Lib.hid ⟨by rw [HTK.out,G.midR_there _ HD.out];exact hr9,(HA2.out.bel.trans (HB6.out.mono HA2.out.bel.size)).trans hb9,no_snoc HA2.out.no HY.out HNY.out⟩
       have HD9:Hid (G.doneR Crs.key (N.take (k+1)) (⟨xs,xf,xc,xn,xd⟩:Crs)=true):=Lib.hid (by rw [HTK.out,G.doneR_snoc,HD.out];first | rfl | (rw [HLT.out];rfl))
       clear hr9 hb9 hg9 d0 d1 d2 d3 d4 q0 q1 q2 q3 q4
       go_wp2
       go_roundw
       case rel=>exact ⟨k+1,_,by omega,by go_num,rfl,by rw [HD9.out],HA9⟩
       case measure=>simp [intOf];omega
     | false =>
       obtain ⟨LT,hLT⟩:∃ LT,ltW (wordsK (⟨xs,xf,xc,xn,xd⟩:Crs)) (wordsK (⟨ys,yf,yc,yn,yd⟩:Crs))=LT:=⟨_,rfl⟩
       have HLT:Hid (G.KeyO.lt (Crs.key (⟨xs,xf,xc,xn,xd⟩:Crs)) (Crs.key (⟨ys,yf,yc,yn,yd⟩:Crs))=LT):=Lib.hid (by rw [←hLT,HLW.out];rfl)
       have HLL:=Lib.hid hLT
       clear hLT
       have r0:=fun p:Past wr=>cell_past d0 p
       have s0:=fun p:Past wr=>cell_past q0 p
       have r1:=fun p:Past wr=>cell_past d1 p
       have s1:=fun p:Past wr=>cell_past q1 p
       have r2:=fun p:Past wr=>cell_past d2 p
       have s2:=fun p:Past wr=>cell_past q2 p
       have r3:=fun p:Past wr=>cell_past d3 p
       have s3:=fun p:Past wr=>cell_past q3 p
       have r4:=fun p:Past wr=>cell_past d4 p
       have s4:=fun p:Past wr=>cell_past q4 p
       go_wp2_with fail
       refine wp_region_plan (.one [0,1,2,3,5,6,7,8] 4 (.one [] 9 (.one [] 10 (.last [11])))) (by kernel_rfl) (by kernel_rfl) (fun d _ _ _ _ h=>by cases d <;> exact h) ?_
       obtain ⟨wq,hwq⟩:∃ wq,wr.drew=wq:=⟨_,rfl⟩
       rw [hwq]
       have HD0:Hid (Below wr.heap.size wr wq):=Lib.hid (by rw [←hwq];exact ⟨rfl,rfl,rfl,Nat.le_refl _,fun _ _=>rfl⟩)
       clear hwq
       simp only [wpPlan,pick,nth]
       repeat (go_big_quiet_step (fail))
       refine wpQuiet_nil ?_
       clear r0 r1 r2 r3 r4 s0 s1 s2 s3 s4 d0 d1 d2 d3 d4 q0 q1 q2 q3 q4
       intro K hK
       refine alone_want (by kernel_rfl) ?_
       go_big_op
       refine (words_any (⟨xs,xf,xc,xn,xd⟩:Crs) wq).mono ?_
       rintro en wb ⟨va,rfl,hoa,hba⟩
       have HSA:=Lib.hid (strs_of_own hoa)
       have HDA:=Lib.hid (HD0.out.trans (hba.mono HD0.out.size))
       refine hK _ wb (past_in HDA.out) ?_
       clear hK K hoa hba HD0
       refine wpQuiet_nil ?_
       intro K hK
       refine alone_want (by kernel_rfl) ?_
       go_big_op
       refine (words_any (⟨ys,yf,yc,yn,yd⟩:Crs) wb).mono ?_
       rintro en wc ⟨vb,rfl,hob,hbb⟩
       have HSB:=Lib.hid (strs_of_own hob)
       have HSC:=Lib.hid (HSA.out.keep hbb)
       have HDB:=Lib.hid (HDA.out.trans (hbb.mono HDA.out.size))
       refine hK _ wc (past_in HDB.out) ?_
       clear hK K hob hbb HDA HSA
       refine wpQuiet_nil ?_
       intro K hK
       refine alone_want (by kernel_rfl) ?_
       go_big_op
       refine (before_any va vb (wordsK (⟨xs,xf,xc,xn,xd⟩:Crs)) (wordsK (⟨ys,yf,yc,yn,yd⟩:Crs)) wc HSC.out HSB.out (by unfold wordsK;split <;> simp) (by unfold wordsK;split <;> simp)).mono ?_
       rintro en w6 ⟨rfl,hbc⟩
       rw [HLL.out]
       have HDC:=Lib.hid (HDB.out.trans (hbc.mono HDB.out.size))
       refine hK _ w6 (past_in HDC.out) ?_
       clear hK K hbc HDB HSC HSB
       repeat (go_big_quiet_step (fail))
       refine wpQuiet_nil ?_
       have HA2:=Lib.hid (ins_keep HA.out HDC.out)
       clear HDC HA
       cases LT with
       | true =>
         obtain ⟨d0,d1,d2,d3,d4⟩:=crs5 (HAT.out.keep HA2.out.bel HAT.out.lt)
         obtain ⟨q0,q1,q2,q3,q4⟩:=crs5 ((HX5.out.keep HA2.out.bel HX5.out.lt).at0)
         simp only [Nat.zero_add] at q0 q1 q2 q3 q4
         have HB6:=Lib.hid ((Below.refl w6.heap.size w6).alloc (Nat.le_refl _) (.cells (encX.cs (⟨xs,xf,xc,xn,xd⟩:Crs)).toArray 90))
         go_wp2_with (at_builtin;first
          | (refine wpList_append_el (E:=encX) rfl _ _ 45 90 rfl HI.out w5.heap.size _ (⟨xs,xf,xc,xn,xd⟩:Crs) w6.heap.size (HA2.out.own.alloc _) rfl (el_new encX w6 (⟨xs,xf,xc,xn,xd⟩:Crs) _) (by have:=HA2.out.bel.size;simp;omega) (mid_small HNM.out hm5) ?_;intro v8b w8 hr8 hb8 hg8;have HB8:Hid (Below w5.heap.size w5 w8):=Lib.hid ((HA2.out.bel.trans (HB6.out.mono HA2.out.bel.size)).trans hb8);have HO8:=Lib.hid hr8;have HB9:=Lib.hid ((Below.refl w8.heap.size w8).alloc (Nat.le_refl _) (.cells (encX.cs (⟨ys,yf,yc,yn,yd⟩:Crs)).toArray 90));have z0:=crs5 (HAT.out.keep HB8.out HAT.out.lt);obtain ⟨z0,z1,z2,z3,z4⟩:=z0;clear hr8 hb8 hg8 d0 d1 d2 d3 d4 q0 q1 q2 q3 q4)
          | (refine wpList_append_el (E:=encX) rfl _ _ 45 90 rfl HI.out w5.heap.size _ (⟨ys,yf,yc,yn,yd⟩:Crs) w8.heap.size (HO8.out.alloc _) rfl (el_new encX w8 (⟨ys,yf,yc,yn,yd⟩:Crs) _) (by have:=HB8.out.size;simp;omega) (mid_small1 HNM.out hm5) ?_;intro v9 w9 hr9 hb9 hg9)
          | fail)
         have HA9:Hid (InsAt encX Crs.key 90 w5 w9 N (⟨xs,xf,xc,xn,xd⟩:Crs) (k+1) v9):=Lib.hid ⟨by rw [HTK.out,G.midR_now HD.out HLT.out];exact hr9,(HB8.out.trans (HB9.out.mono HB8.out.size)).trans hb9,no_snoc HA2.out.no HY.out HNY.out⟩
         have HD9:Hid (G.doneR Crs.key (N.take (k+1)) (⟨xs,xf,xc,xn,xd⟩:Crs)=true):=Lib.hid (by rw [HTK.out,G.doneR_snoc,HD.out];first | rfl | (rw [HLT.out];rfl))
         clear hr9 hb9 hg9 z0 z1 z2 z3 z4
         go_wp2
         go_roundw
         case rel=>exact ⟨k+1,_,by omega,by go_num,rfl,by rw [HD9.out],HA9⟩
         case measure=>simp [intOf];omega
       | false =>
         obtain ⟨d0,d1,d2,d3,d4⟩:=crs5 (HAT.out.keep HA2.out.bel HAT.out.lt)
         obtain ⟨q0,q1,q2,q3,q4⟩:=crs5 ((HX5.out.keep HA2.out.bel HX5.out.lt).at0)
         simp only [Nat.zero_add] at q0 q1 q2 q3 q4
         have HB6:=Lib.hid ((Below.refl w6.heap.size w6).alloc (Nat.le_refl _) (.cells (encX.cs (⟨ys,yf,yc,yn,yd⟩:Crs)).toArray 90))
         go_wp2_with (at_builtin;refine wpList_append_el (E:=encX) rfl _ _ 45 90 rfl HI.out w5.heap.size _ (⟨ys,yf,yc,yn,yd⟩:Crs) w6.heap.size (HA2.out.own.alloc _) rfl (el_new encX w6 (⟨ys,yf,yc,yn,yd⟩:Crs) _) (by have:=HA2.out.bel.size;simp;omega) (mid_small HNM.out hm5) ?_;intro v9 w9 hr9 hb9 hg9)
         have HA9:Hid (InsAt encX Crs.key 90 w5 w9 N (⟨xs,xf,xc,xn,xd⟩:Crs) (k+1) v9):=Lib.hid ⟨by rw [HTK.out,G.midR_not HD.out HLT.out];exact hr9,(HA2.out.bel.trans (HB6.out.mono HA2.out.bel.size)).trans hb9,no_snoc HA2.out.no HY.out HNY.out⟩
         have HD9:Hid (G.doneR Crs.key (N.take (k+1)) (⟨xs,xf,xc,xn,xd⟩:Crs)=false):=Lib.hid (by rw [HTK.out,G.doneR_snoc,HD.out];first | rfl | (rw [HLT.out];rfl))
         clear hr9 hb9 hg9 d0 d1 d2 d3 d4 q0 q1 q2 q3 q4
         go_wp2
         go_roundw
         case rel=>exact ⟨k+1,_,by omega,by go_num,rfl,by rw [HD9.out],HA9⟩
         case measure=>simp [intOf];omega
    ·have hTA:Hid (N.take k=N):=Lib.hid (List.take_of_length_le (by rw [HNM.out];omega))
     rw [hTA.out]
     obtain ⟨D,hD⟩:∃ D,G.doneR Crs.key N (⟨xs,xf,xc,xn,xd⟩:Crs)=D:=⟨_,rfl⟩
     have HD:=Lib.hid hD
     rw [hD]
     clear hD
     have HO:=Lib.hid HA.out.own
     rw [hTA.out] at HO
     cases D with
     | true =>
       have HEN:=Lib.hid (HCP.out _ _ (els_of_own (by rw [←G.midR_end HD.out];exact HO.out)) (HB5.out.trans (HA.out.bel.mono HB5.out.size)))
       go_wp2
       go_roundw
       case rel=>exact ⟨i+1,_,by omega,by go_num,rfl,HEN⟩
       case measure=>simp [intOf];omega
     | false =>
       obtain ⟨q0,q1,q2,q3,q4⟩:=crs5 ((HX5.out.keep HA.out.bel HX5.out.lt).at0)
       simp only [Nat.zero_add] at q0 q1 q2 q3 q4
       have HBA:=Lib.hid HA.out.bel
       have HB6:=Lib.hid ((Below.refl wr.heap.size wr).alloc (Nat.le_refl _) (.cells (encX.cs (⟨xs,xf,xc,xn,xd⟩:Crs)).toArray 90))
       go_wp2_with (at_builtin;refine wpList_append_el (E:=encX) rfl _ _ 45 90 rfl HI.out w5.heap.size _ (⟨xs,xf,xc,xn,xd⟩:Crs) wr.heap.size (HO.out.alloc _) rfl (el_new encX wr (⟨xs,xf,xc,xn,xd⟩:Crs) _) (by have:=HBA.out.size;simp;omega) (mid_small0 HNM.out hm5) ?_;intro v9 w9 hr9 hb9 hg9)
       have HEN:=Lib.hid (HCP.out w9 v9 (els_of_own (by rw [←G.midR_last HD.out];exact hr9)) ((HB5.out.trans ((HBA.out.trans (HB6.out.mono HBA.out.size)).mono HB5.out.size)).trans (hb9.mono HB5.out.size)))
       clear hr9 hb9 hg9 q0 q1 q2 q3 q4
       go_wp2
       go_roundw
       case rel=>exact ⟨i+1,_,by omega,by go_num,rfl,HEN⟩
       case measure=>simp [intOf];omega
  ·obtain rfl:i=n:=by omega
   have HPF:Hid (P=(N,0)):=Lib.hid (by rw [HPR2.out,HP.out.run,List.drop_of_length_le (by rw [List.length_map,HN.out];exact Nat.le_refl _)];rfl)
   go_wp2
   go_ret2
   exact ⟨_,by rw [HPF.out];rfl,by rw [HPF.out];exact HP.out.tab,HB2.out.trans (HP.out.bel.mono HB2.out.size)⟩
end Go.Proofs.YthcpglnmhimepaaGreatDoor.Cs
end
