/- UnitParse UnitReadC -/
import Derived.Test.YtfhhihamndbcnaaGreatDoorR12
import Derived.Test.YtfhhihamndbcnaaGreatDoorR29
import Derived.Test.YtfhhihamndbcnaaGreatDoorR36
import Derived.Test.YtfhhihamndbcnaaGreatDoorR37
section
namespace Go.Proofs.YtfhhihamndbcnaaGreatDoor.Un
open Go.RowKit Go.Maps
structure ParseAt (W0 W:World) (R m i:Nat) (l:List (List ByteArray)) (c f e k:Value) (D:DataW Unit) (M:Mast):Prop where
 rd:RdAt W W0.heap.size R m c f e k i D M
 st:StoodOk D M
 sane:Sane M
 bel:Below W0.heap.size W0 W
 run:runM zeroM l=runM M (l.drop i)
theorem parseAt_start (W0:World) (l:List (List ByteArray)) :
 ParseAt W0 ((W0.alloc (.map #[] 0)).alloc (.cells (rdCells (.slice none 0 0) (.slice none 0 0) (.slice none 0 0) (.slice none 0 0) zeroM W0.heap.size) 123)) (W0.heap.size+1) W0.heap.size 0 l (.slice none 0 0) (.slice none 0 0) (.slice none 0 0) (.slice none 0 0) (.map []) zeroM where
 rd:=⟨by have:=heap_alloc_new (W0.alloc (.map #[] 0)) (.cells (rdCells (.slice none 0 0) (.slice none 0 0) (.slice none 0 0) (.slice none 0 0) zeroM W0.heap.size) 123);rw [World.size_alloc] at this;exact this,World.ownsRow_nil _ _ _ _,World.ownsRow_nil _ _ _ _,World.ownsRow_nil _ _ _ _,World.ownsRow_nil _ _ _ _,(World.ownsMap_made W0 _ _ _).alloc _,Nat.le_succ _,Nat.le_refl _⟩
 st:=StoodOk.zero
 sane:=Sane.zero
 bel:=((Below.refl _ W0).alloc (Nat.le_refl _) _).alloc (by simp) _
 run:=rfl
theorem words_pos (s:ByteArray):∀ ws∈wordsT s,0 < ws.length:=fun ws h=>List.length_pos_iff.2 (text_right s ws h).1
def ReadAll:Prop:=∀ (v:Value) (ws:List ByteArray) (W0 W:World) (R m n:Nat) (c f e l:Value) (D:DataW Unit) (M:Mast),StrsV W0 v ws→0 < ws.length→Laid W0→Fl.Laid W0→Below W0.heap.size W0 W→RdAt W W0.heap.size R m c f e l n D M→StoodOk D M→Sane M→n < maxLen →
    Calls Tryz.prog 51 #[.pointer (some ⟨R,0,none⟩),v] W (LineTold W W0.heap.size R m (n+1) (stepV M ws) (stepE M ws))
abbrev nil4:Value:=.slice none 0 0
abbrev zeroBox (w:World):World:=w.alloc (.cells #[.slice none 0 0,.slice none 0 0,.slice none 0 0,.slice none 0 0,.string emp,.string emp,.string emp,.string emp,.string emp] 31)
theorem box_start (w:World):BoxM (zeroBox w) w.heap.size 31 nil4 nil4 nil4 nil4 zeroM:=heap_alloc_new w _
theorem ones_nil:Ones nil4 nil4 nil4 nil4:=⟨rfl,rfl,rfl,rfl⟩
set_option maxRecDepth 100000 in
set_option maxHeartbeats 16000000 in
theorem parse_with (hread:ReadAll) (s:ByteArray) (w:World) (hs:s.size≤30000) (hl:Laid w) (hlf:Fl.Laid w) :
 Calls Tryz.prog 27 #[.string s] w (MastTold w (parseM s).1 (parseM s).2):=by
 have HB0:Hid (Below w.heap.size w (zeroBox w)):=Lib.hid ((Below.refl w.heap.size w).alloc (Nat.le_refl _) _)
 have HX0:=Lib.hid (box_start w)
 have HLN:=Lib.hid (lines_any s (zeroBox w) hs)
 have HLA:=Lib.hid (hl.below HB0.out (Nat.le_refl _))
 have HLF:=Lib.hid (hlf.below HB0.out (Nat.le_refl _))
 have HRE:=Lib.hid hread
 have HWP:=Lib.hid (words_pos s)
 have hpm:parseM s=if linE s.data.toList=0 then linesM (wordsT s) else (zeroM,linE s.data.toList):=rfl
 obtain ⟨L,hL⟩:∃ L,asB (linV s.data.toList)=L:=⟨_,rfl⟩
 have hWT:wordsT s=L.map (·.2):=by unfold wordsT;rw [hL]
 rw [hWT] at hpm HWP
 have hLL:L.length≤30001:=by
  rw [←hL,asB_length]
  unfold linV
  split
  ·simp
  ·split
   ·unfold linesL
    have h1:=numP_length (enumL 1 (linesGo [] s.data.toList))
    rw [enumL_length] at h1
    have h2:=linesGo_length [] s.data.toList
    rw [size_list] at h2
    omega
   ·simp
 obtain ⟨e0,he0⟩:∃ e0,linE s.data.toList=e0:=⟨_,rfl⟩
 rw [he0] at hpm HLN
 rw [hL] at HLN
 obtain ⟨PM,hPM⟩:∃ PM,(parseM s).1=PM:=⟨_,rfl⟩
 obtain ⟨PE,hPE⟩:∃ PE,(parseM s).2=PE:=⟨_,rfl⟩
 rw [hPM,hPE]
 have HPR:Hid ((PM,PE)=if e0=0 then linesM (L.map (·.2)) else (zeroM,e0)):=Lib.hid (by rw [←hpm,←hPM,←hPE])
 clear hread hl hlf hpm hL hWT he0 hPM hPE
 go_enter Tryz.func27,Tryz.ntmps27
 go_wp2_with fail
 refine HLN.out.mono ?_
 rintro en w2 ⟨v2,rfl,hlv,hb2⟩
 have HX2:=Lib.hid (HX0.out.kept hb2)
 have HB2:=Lib.hid (HB0.out.trans (hb2.mono HB0.out.size))
 have HLA2:=Lib.hid (HLA.out.below hb2 (Nat.le_refl _))
 have HLF2:=Lib.hid (HLF.out.below hb2 (Nat.le_refl _))
 clear hb2 HX0 HB0 HLA HLF
 by_cases h0:e0=0
 ·subst h0
  have HPR2:Hid ((PM,PE)=linesM (L.map (·.2))):=Lib.hid (by rw [HPR.out,if_pos rfl])
  clear HPR
  obtain ⟨p,cp,rfl,hm,hc⟩:=hlv
  have HC:=Lib.hid hc
  obtain ⟨n,hn⟩:∃ n,L.length=n:=⟨_,rfl⟩
  rw [hn] at hLL ⊢
  have HN:=Lib.hid hn
  have HST:=Lib.hid (parseAt_start w2 (L.map (·.2)))
  have hmm:=@run_makeMap Tryz.prog
  clear hc hn hm
  go_wp2
  clear hmm
  go_loopw [24] (fun s24 wr=>∃ i:Nat,i≤n∧s24=.int .i64 (i:Int)∧Hid (∃ c f e k D M,ParseAt w2 wr (w2.heap.size+1) w2.heap.size i (L.map (·.2)) c f e k D M)) (fun s24 _=>n - (intOf s24).toNat)
  case atStart=>exact ⟨0,Nat.zero_le _,rfl,Lib.hid ⟨_,_,_,_,_,_,HST.out⟩⟩
  case round =>
   obtain ⟨i,hi,rfl,HPA⟩:=hrel
   obtain ⟨c,f,e,k,D,M,hpa⟩:=HPA.out
   have HP:=Lib.hid hpa
   clear hpa HPA
   by_cases hlt:i < n
   ·obtain ⟨⟨ln,ws⟩,hx⟩:∃ x,L[i]?=some x:=⟨_,List.getElem?_eq_getElem (by rw [HN.out];exact hlt)⟩
    obtain ⟨b,o,u,rfl,d0,d1,hu⟩:=HC.out i _ hx
    dsimp only at d0 d1 hu
    have hwx:(L.map (·.2))[i]?=some ws:=by rw [List.getElem?_map,hx];rfl
    have HWX:=Lib.hid hwx
    have HW0:=Lib.hid (HWP.out ws (List.mem_of_getElem? hwx))
    have HU:=Lib.hid hu
    obtain ⟨pu,cu,rfl,_⟩:=hu
    have e0:=(HP.out.bel.cell (World.block_lt_of_cell? w2 _ d0)).trans d0
    have e1:=(HP.out.bel.cell (World.block_lt_of_cell? w2 _ d1)).trans d1
    obtain ⟨nw,hnw⟩:∃ nw,ws.length=nw:=⟨_,rfl⟩
    rw [hnw] at e1 HU
    have hbx:=(Below.refl wr.heap.size wr).alloc (Nat.le_refl _) (.cells #[.int .i64 ln,.slice pu nw cu] 104)
    have HR1:=Lib.hid (HP.out.rd.below hbx)
    have HB1:=Lib.hid (HP.out.bel.trans (hbx.mono HP.out.bel.size))
    have HRC:=Lib.hid (HRE.out (.slice pu nw cu) ws w2 _ _ _ _ _ _ _ _ _ _ HU.out HW0.out HLA2.out HLF2.out HB1.out HR1.out HP.out.st HP.out.sane (by unfold maxLen;omega))
    clear hx hwx d0 d1 hnw hbx
    obtain ⟨E,hE⟩:∃ E,stepE M ws=E:=⟨_,rfl⟩
    rw [hE] at HRC
    have HE:=Lib.hid hE
    clear hE
    go_wp2_with fail
    refine HRC.out.mono ?_
    rintro en w3 ⟨rfl,hb3,hrd3⟩
    have HB3:=Lib.hid (HB1.out.trans hb3)
    have HRD3:=Lib.hid hrd3
    clear hb3 hrd3 e0 e1
    by_cases hE0:E=0
    ·subst hE0
     have HNX:Hid (∃ c f e k D M,ParseAt w2 w3 (w2.heap.size+1) w2.heap.size (i+1) (L.map (·.2)) c f e k D M):=Lib.hid (by
      obtain ⟨c',f',e',k',D',hr,hst⟩:=HRD3.out rfl
      refine ⟨c',f',e',k',D',_,hr,hst,HP.out.sane.step HE.out,HB3.out,?_⟩
      have hdr:(L.map (·.2)).drop i=ws::(L.map (·.2)).drop (i+1):=by
       have hlt':=(List.getElem?_eq_some_iff.1 HWX.out).1
       rw [List.drop_eq_getElem_cons hlt',(List.getElem?_eq_some_iff.1 HWX.out).2]
      rw [HP.out.run,hdr,runM_cons _ _ _ HE.out])
     go_wp2
     go_roundw
     case rel=>exact ⟨i+1,by omega,by go_num,HNX⟩
     case measure=>simp [intOf];omega
    ·have HPF:Hid (PM=zeroM∧PE=E):=Lib.hid (by
      have hdr:(L.map (·.2)).drop i=ws::(L.map (·.2)).drop (i+1):=by
       have hlt':=(List.getElem?_eq_some_iff.1 HWX.out).1
       rw [List.drop_eq_getElem_cons hlt',(List.getElem?_eq_some_iff.1 HWX.out).2]
      have h1:=HPR2.out
      unfold linesM at h1
      rw [HP.out.run,hdr,runM_stop _ _ _ (by rw [HE.out];exact hE0),endM_stop _ (by rw [HE.out];exact hE0),HE.out] at h1
      exact Prod.mk.inj h1)
     have HX3:=Lib.hid (HX2.out.keep HB3.out HX2.out.lt)
     have HBF:=Lib.hid (HB2.out.trans (HB3.out.mono HB2.out.size))
     go_wp2_with (refine wpList_store_mast rfl 31 (.tmp 2) (.tmp 33) rfl w.heap.size nil4 nil4 nil4 nil4 nil4 nil4 nil4 nil4 zeroM zeroM 31 rfl rfl HX3.out ones_nil (by kernel_rfl) ?_;intro w4 hb4 hg4)
     have HBG:=Lib.hid (HBF.out.grown hg4 HBF.out.size (fun j hj=>by cases hj;exact Nat.le_refl _))
     obtain ⟨c0,c1,c2,c3,c4,c5,c6,c7,c8⟩:=hb4.nine
     have HZ:=Lib.hid (MastIn.zero w4)
     clear hb4 hg4
     refine bodyPost_ret (v:=.tuple #[aggM nil4 nil4 nil4 nil4 zeroM,.int .i64 E]) (by simp [results,Tryz.results27,go_sem,c0,c1,c2,c3,c4,c5,c6,c7,c8]) rfl ⟨_,by rw [HPF.out.2],?_,HBG.out⟩
     rw [HPF.out.1]
     exact ⟨_,_,_,_,rfl,HZ.out⟩
   ·have HRN:Hid (runM zeroM (L.map (·.2))=(M,0)):=Lib.hid (by
     rw [HP.out.run,List.drop_eq_nil_of_le (by rw [List.length_map,HN.out];omega)];rfl)
    have HPF:Hid ((PM,PE)=endM (M,0)):=Lib.hid (by rw [HPR2.out];unfold linesM;rw [HRN.out])
    have HMI:=Lib.hid HP.out.rd.mast
    have HCK:=Lib.hid (check_any c f e k M wr HMI.out (Fl.rise_codes HP.out.sane.fl) (by have:=HP.out.sane.lf;omega))
    obtain ⟨c0,c1,c2,c3,c4,c5,c6,c7,c8⟩:=HP.out.rd.nine
    obtain ⟨A,hA⟩:∃ A,allE M=A:=⟨_,rfl⟩
    rw [hA] at HCK
    have HA:=Lib.hid hA
    clear hA
    go_wp2_with fail
    clear c0 c1 c2 c3 c4 c5 c6 c7 c8
    refine HCK.out.mono ?_
    rintro en w3 ⟨rfl,hb3⟩
    have HR3:=Lib.hid (HP.out.rd.below hb3)
    have HB3:=Lib.hid (HP.out.bel.trans (hb3.mono HP.out.bel.size))
    have HX3:=Lib.hid (HX2.out.keep HB3.out HX2.out.lt)
    have HBF:=Lib.hid (HB2.out.trans (HB3.out.mono HB2.out.size))
    clear hb3
    by_cases hA0:A=0
    ·subst hA0
     have HPG:Hid (PM=M∧PE=0):=Lib.hid (by
      have h1:=HPF.out
      rw [endM_ok _ HA.out] at h1
      exact Prod.mk.inj h1)
     have HM3:=Lib.hid HR3.out.mast
     obtain ⟨c0,c1,c2,c3,c4,c5,c6,c7,c8⟩:=HR3.out.nine
     go_wp2_with (refine wpList_store_mast rfl 31 (.tmp 2) (.tmp 44) rfl w.heap.size nil4 nil4 nil4 nil4 c f e k zeroM M 31 rfl rfl HX3.out (ones_of HM3.out) (by kernel_rfl) ?_;intro w4 hb4 hg4)
     clear c0 c1 c2 c3 c4 c5 c6 c7 c8
     have HBG:=Lib.hid (HBF.out.grown hg4 HBF.out.size (fun j hj=>by cases hj;exact Nat.le_refl _))
     have HM4:Hid (MastIn w4 c f e k M):=Lib.hid (by
      have hne:∀ {B':Nat} {t':TypeId} {s' q':Nat} {v':Value} {xs':List Value},w3.ownsRow w2.heap.size t' s' v' q' xs'→v'.ownBlock=none∨v'.ownBlock≠some w.heap.size:=fun hr=>by
       rcases hr.2 with ⟨rfl,_⟩ | ⟨g',_,_,rfl,hge,_⟩
       ·exact .inl rfl
       ·refine .inr (fun e'=>?_)
        have:g'=w.heap.size:=by simpa [Value.ownBlock] using e'
        have:=HX2.out.lt
        omega
      exact ⟨chart_of_own (HR3.out.chart.kept hg4 (hne (B':=0) HR3.out.chart)),els_of_own (HR3.out.flows.kept hg4 (hne (B':=0) HR3.out.flows)),els_of_own (HR3.out.ents.kept hg4 (hne (B':=0) HR3.out.ents)),els_of_own (HR3.out.lines.kept hg4 (hne (B':=0) HR3.out.lines))⟩)
     obtain ⟨c0,c1,c2,c3,c4,c5,c6,c7,c8⟩:=hb4.nine
     clear hb4 hg4
     refine bodyPost_ret (v:=.tuple #[aggM c f e k M,.int .i64 0]) (by simp [results,Tryz.results27,go_sem,c0,c1,c2,c3,c4,c5,c6,c7,c8]) rfl ⟨_,by rw [HPG.out.2],?_,HBG.out⟩
     rw [HPG.out.1]
     exact ⟨_,_,_,_,rfl,HM4.out⟩
    ·have HPG:Hid (PM=zeroM∧PE=A):=Lib.hid (by
      have h1:=HPF.out
      rw [endM_no _ (by rw [HA.out];exact hA0),HA.out] at h1
      exact Prod.mk.inj h1)
     go_wp2_with (refine wpList_store_mast rfl 31 (.tmp 2) (.tmp 41) rfl w.heap.size nil4 nil4 nil4 nil4 nil4 nil4 nil4 nil4 zeroM zeroM 31 rfl rfl HX3.out ones_nil (by kernel_rfl) ?_;intro w4 hb4 hg4)
     have HBG:=Lib.hid (HBF.out.grown hg4 HBF.out.size (fun j hj=>by cases hj;exact Nat.le_refl _))
     obtain ⟨c0,c1,c2,c3,c4,c5,c6,c7,c8⟩:=hb4.nine
     have HZ:=Lib.hid (MastIn.zero w4)
     clear hb4 hg4
     refine bodyPost_ret (v:=.tuple #[aggM nil4 nil4 nil4 nil4 zeroM,.int .i64 A]) (by simp [results,Tryz.results27,go_sem,c0,c1,c2,c3,c4,c5,c6,c7,c8]) rfl ⟨_,by rw [HPG.out.2],?_,HBG.out⟩
     rw [HPG.out.1]
     exact ⟨_,_,_,_,rfl,HZ.out⟩
 ·have HPF:Hid (PM=zeroM∧PE=e0):=Lib.hid (by
   have h1:=HPR.out
   rw [if_neg h0] at h1
   exact Prod.mk.inj h1)
  obtain ⟨p,cp,rfl,_⟩:=hlv
  go_wp2_with (refine wpList_store_mast rfl 31 (.tmp 2) (.tmp 18) rfl w.heap.size nil4 nil4 nil4 nil4 nil4 nil4 nil4 nil4 zeroM zeroM 31 rfl rfl HX2.out ones_nil (by kernel_rfl) ?_;intro w4 hb4 hg4)
  have HBG:=Lib.hid (HB2.out.grown hg4 HB2.out.size (fun j hj=>by cases hj;exact Nat.le_refl _))
  obtain ⟨c0,c1,c2,c3,c4,c5,c6,c7,c8⟩:=hb4.nine
  have HZ:=Lib.hid (MastIn.zero w4)
  clear hb4 hg4
  refine bodyPost_ret (v:=.tuple #[aggM nil4 nil4 nil4 nil4 zeroM,.int .i64 e0]) (by simp [results,Tryz.results27,go_sem,c0,c1,c2,c3,c4,c5,c6,c7,c8]) rfl ⟨_,by rw [HPF.out.2],?_,HBG.out⟩
  rw [HPF.out.1]
  exact ⟨_,_,_,_,rfl,HZ.out⟩
end Go.Proofs.YtfhhihamndbcnaaGreatDoor.Un
end
section
namespace Go.Proofs.YtfhhihamndbcnaaGreatDoor.Un
open Go.RowKit Go.Maps
theorem read_any (v:Value) (ws:List ByteArray) (W0 W:World) (R m n:Nat) (c f e l:Value) (D:DataW Unit) (M:Mast) (hv0:StrsV W0 v ws) (h0:0 < ws.length) (hl:Laid W0) (hlf:Fl.Laid W0) (hb:Below W0.heap.size W0 W) (h:RdAt W W0.heap.size R m c f e l n D M) (hst:StoodOk D M) (hs:Sane M) (hn:n < maxLen) :
 Calls Tryz.prog 51 #[.pointer (some ⟨R,0,none⟩),v] W (LineTold W W0.heap.size R m (n+1) (stepV M ws) (stepE M ws)):=by
 by_cases w1:wd ws 0=tAccount
 ·exact read_head v ws W0 W R m n c f e l D M hv0 h0 hl hlf hb h hst hs (.inl w1)
 by_cases w2:wd ws 0=Fl.tFlow
 ·exact read_head v ws W0 W R m n c f e l D M hv0 h0 hl hlf hb h hst hs (.inr (.inl w2))
 cases hf:formedW ws with
 | false=>exact read_head v ws W0 W R m n c f e l D M hv0 h0 hl hlf hb h hst hs (.inr (.inr hf))
 | true=>exact read_formed v ws W0 W R m n c f e l D M hv0 hb h hst w1 w2 hf hn (fun X k D' hX hr hz=>keep_any v ws X W0.heap.size R m k c f e l D' M hX hf hr hz hs)
end Go.Proofs.YtfhhihamndbcnaaGreatDoor.Un
end
