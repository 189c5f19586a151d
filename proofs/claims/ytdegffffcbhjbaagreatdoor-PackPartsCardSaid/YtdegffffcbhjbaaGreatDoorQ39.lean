/- PackParts -/
import Derived.Test.YtdegffffcbhjbaaGreatDoorQ38
namespace Go.Proofs.YtdegffffcbhjbaaGreatDoor.Pk
open Go.RowKit Go.Maps Go.Proofs.YtdegffffcbhjbaaGreatDoor.Un
theorem runG_in64:∀ (G:List (Fa.Key × List Int)),∀ f∈(Fa.runG G).1,In64 f.amt
 | [],f,h=>by cases h
 | g::r,f,h=>by
   unfold Fa.runG at h
   split at h
   ·split at h
    ·rcases List.mem_append.1 h with h | h
     ·unfold Fa.putF at h
      split at h
      ·cases h
      ·rw [List.mem_singleton.1 h]
       have:=fit_sumFrom g.2 0 (by decide)
       unfold fit at this
       simp only [Bool.and_eq_true,decide_eq_true_eq] at this
       exact this
     ·exact runG_in64 r f h
    ·cases h
   ·cases h
theorem told_few {M:Mast} {s:ByteArray} (h:(parseP M s).2=0):(parseP M s).1.length * 10≤s.size+1∧∀ f∈(parseP M s).1,In64 f.amt:=by
 rcases parseP_ways M s with ⟨T,_,_,h3,h4,h5⟩ | ⟨h1,_⟩
 ·rw [h5]
  have hl:=Fa.ofL_length T.facts
  exact ⟨by omega,runG_in64 _⟩
 ·exact absurd h h1
set_option maxRecDepth 100000 in
set_option maxHeartbeats 32000000 in
theorem packParts_walk (s0 s1 s2:ByteArray) (w:World) (_hs0:s0.size≤maxLen) (_hs1:s1.size≤maxLen) (_hs2:s2.size≤maxLen) (hU:LaidP w):Calls Tryz.prog 7 #[.string s0,.string s1,.string s2] w fun en w'=>en=.returned (.bool true)∧Below w.heap.size w w':=by
 have HL:=Lib.hid hU
 clear hU _hs0 _hs1 _hs2
 go_enter Tryz.func7,Tryz.ntmps7
 go_wp2_with fail
 refine (alive11_any _ HL.out).mono ?_
 rintro en w1 ⟨rfl,hb1⟩
 have HB1:=Lib.hid hb1
 have HL1:=Lib.hid (HL.out.keep hb1)
 clear hb1
 go_wp2_with fail
 refine (master_any s0 _ HL1.out.1 HL1.out.2.1).mono ?_
 rintro en w2 ⟨M,c,f,e,l,c',f',e',l',is,rfl,hm,hm',hb2,his⟩
 obtain ⟨pc,cc,pf,cf,pe,ce,pl,cl,rfl,rfl,rfl,rfl⟩:=shapes hm
 obtain ⟨pc',cc',pf',cf',pe',ce',pl',cl',rfl,rfl,rfl,rfl⟩:=shapes hm'
 have HM2:=Lib.hid hm
 have HM2':=Lib.hid hm'
 have HB2:=Lib.hid (HB1.out.trans (hb2.mono HB1.out.size))
 have HL2:=Lib.hid (HL1.out.keep hb2)
 have HIS:=Lib.hid his
 clear hm hm' hb2 his HB1 HL1
 by_cases hs1:4000 < s1.size
 ·cases is
  all_goals
   go_wp2_with (first
    | (refine wpList_store_mast rfl 30 (.tmp 7) (.tmp 23) rfl w2.heap.size nil4 nil4 nil4 nil4 (.slice pc M.chart.length cc) (.slice pf M.flows.length cf) (.slice pe M.ents.length ce) (.slice pl M.lines.length cl) zeroM M 30 rfl rfl (start1 w2) ⟨rfl,rfl,rfl,rfl⟩ (by kernel_rfl) ?_;intro w3 hb3 hg3;have HX3:=Lib.hid hb3;have HG3:=Lib.hid hg3;clear hb3 hg3)
    | (refine wpList_store_mast rfl 36 (.tmp 8) (.tmp 24) rfl (w2.heap.size+1) nil4 nil4 nil4 nil4 (.slice pc' M.chart.length cc') (.slice pf' M.flows.length cf') (.slice pe' M.ents.length ce') (.slice pl' M.lines.length cl') zeroM M 36 rfl rfl (start_keep HG3.out) ⟨rfl,rfl,rfl,rfl⟩ (by kernel_rfl) ?_;intro w4 hb4 hg4;have HT4:=Lib.hid (two_of HM2.out HM2'.out HX3.out HG3.out hb4 hg4);clear hb4 hg4)
    | fail)
   have HB4:=Lib.hid (HB2.out.trans (HT4.out.bel.mono HB2.out.size))
   go_ret
   exact ⟨rfl,HB4.out⟩
 by_cases hs2:4000 < s2.size
 ·cases is
  all_goals
   go_wp2_with (first
    | (refine wpList_store_mast rfl 30 (.tmp 7) (.tmp 23) rfl w2.heap.size nil4 nil4 nil4 nil4 (.slice pc M.chart.length cc) (.slice pf M.flows.length cf) (.slice pe M.ents.length ce) (.slice pl M.lines.length cl) zeroM M 30 rfl rfl (start1 w2) ⟨rfl,rfl,rfl,rfl⟩ (by kernel_rfl) ?_;intro w3 hb3 hg3;have HX3:=Lib.hid hb3;have HG3:=Lib.hid hg3;clear hb3 hg3)
    | (refine wpList_store_mast rfl 36 (.tmp 8) (.tmp 24) rfl (w2.heap.size+1) nil4 nil4 nil4 nil4 (.slice pc' M.chart.length cc') (.slice pf' M.flows.length cf') (.slice pe' M.ents.length ce') (.slice pl' M.lines.length cl') zeroM M 36 rfl rfl (start_keep HG3.out) ⟨rfl,rfl,rfl,rfl⟩ (by kernel_rfl) ?_;intro w4 hb4 hg4;have HT4:=Lib.hid (two_of HM2.out HM2'.out HX3.out HG3.out hb4 hg4);clear hb4 hg4)
    | fail)
   have HB4:=Lib.hid (HB2.out.trans (HT4.out.bel.mono HB2.out.size))
   go_ret
   exact ⟨rfl,HB4.out⟩
 have hab:s1.size=0∨∃ k,s1.size=k+1:=by
  cases h:s1.size with
  | zero=>exact .inl rfl
  | succ k=>exact .inr ⟨k,rfl⟩
 rcases hab with hz | ⟨k,hk⟩
 rotate_left
 ·have hkl:k < s1.size:=by omega
  cases hby:(((s1[k]'hkl).toNat:Int) != 10) with
  | true =>
    cases is
    all_goals
     go_wp2_with (first
      | (refine wpList_store_mast rfl 30 (.tmp 7) (.tmp 23) rfl w2.heap.size nil4 nil4 nil4 nil4 (.slice pc M.chart.length cc) (.slice pf M.flows.length cf) (.slice pe M.ents.length ce) (.slice pl M.lines.length cl) zeroM M 30 rfl rfl (start1 w2) ⟨rfl,rfl,rfl,rfl⟩ (by kernel_rfl) ?_;intro w3 hb3 hg3;have HX3:=Lib.hid hb3;have HG3:=Lib.hid hg3;clear hb3 hg3)
      | (refine wpList_store_mast rfl 36 (.tmp 8) (.tmp 24) rfl (w2.heap.size+1) nil4 nil4 nil4 nil4 (.slice pc' M.chart.length cc') (.slice pf' M.flows.length cf') (.slice pe' M.ents.length ce') (.slice pl' M.lines.length cl') zeroM M 36 rfl rfl (start_keep HG3.out) ⟨rfl,rfl,rfl,rfl⟩ (by kernel_rfl) ?_;intro w4 hb4 hg4;have HT4:=Lib.hid (two_of HM2.out HM2'.out HX3.out HG3.out hb4 hg4);clear hb4 hg4)
      | fail)
     have HB4:=Lib.hid (HB2.out.trans (HT4.out.bel.mono HB2.out.size))
     go_ret
     exact ⟨rfl,HB4.out⟩
  | false =>
  have HEND:Hid (s1.size=0∨∃ u,s1.data.toList=u++[10]):=Lib.hid (.inr (by
   have h1:(s1[k]'hkl)=10:=by
    have h2:((s1[k]'hkl).toNat:Int)=10:=by simpa using hby
    exact UInt8.toNat_inj.1 (by show _=10;omega)
   refine ⟨s1.data.toList.take k,?_⟩
   have h3:s1.data.toList.length=k+1:=by rw [size_list];exact hk
   have h4:s1.data.toList[k]?=some 10:=by
    rw [←h1]
    exact List.getElem?_eq_getElem (by rw [h3];omega)
   conv=>lhs;rw [←List.take_length (l:=s1.data.toList),h3,List.take_add_one,h4]
   rfl))
  cases is with
  | false =>
    go_wp2_with (first
     | (refine wpList_store_mast rfl 30 (.tmp 7) (.tmp 23) rfl w2.heap.size nil4 nil4 nil4 nil4 (.slice pc M.chart.length cc) (.slice pf M.flows.length cf) (.slice pe M.ents.length ce) (.slice pl M.lines.length cl) zeroM M 30 rfl rfl (start1 w2) ⟨rfl,rfl,rfl,rfl⟩ (by kernel_rfl) ?_;intro w3 hb3 hg3;have HX3:=Lib.hid hb3;have HG3:=Lib.hid hg3;clear hb3 hg3)
     | (refine wpList_store_mast rfl 36 (.tmp 8) (.tmp 24) rfl (w2.heap.size+1) nil4 nil4 nil4 nil4 (.slice pc' M.chart.length cc') (.slice pf' M.flows.length cf') (.slice pe' M.ents.length ce') (.slice pl' M.lines.length cl') zeroM M 36 rfl rfl (start_keep HG3.out) ⟨rfl,rfl,rfl,rfl⟩ (by kernel_rfl) ?_;intro w4 hb4 hg4;have HT4:=Lib.hid (two_of HM2.out HM2'.out HX3.out HG3.out hb4 hg4);clear hb4 hg4)
     | fail)
    have HB4:=Lib.hid (HB2.out.trans (HT4.out.bel.mono HB2.out.size))
    go_ret
    exact ⟨rfl,HB4.out⟩
  | true =>
  go_wp2_with (first
   | (refine wpList_store_mast rfl 30 (.tmp 7) (.tmp 23) rfl w2.heap.size nil4 nil4 nil4 nil4 (.slice pc M.chart.length cc) (.slice pf M.flows.length cf) (.slice pe M.ents.length ce) (.slice pl M.lines.length cl) zeroM M 30 rfl rfl (start1 w2) ⟨rfl,rfl,rfl,rfl⟩ (by kernel_rfl) ?_;intro w3 hb3 hg3;have HX3:=Lib.hid hb3;have HG3:=Lib.hid hg3;clear hb3 hg3)
   | (refine wpList_store_mast rfl 36 (.tmp 8) (.tmp 24) rfl (w2.heap.size+1) nil4 nil4 nil4 nil4 (.slice pc' M.chart.length cc') (.slice pf' M.flows.length cf') (.slice pe' M.ents.length ce') (.slice pl' M.lines.length cl') zeroM M 36 rfl rfl (start_keep HG3.out) ⟨rfl,rfl,rfl,rfl⟩ (by kernel_rfl) ?_;intro w4 hb4 hg4;have HT4:=Lib.hid (two_of HM2.out HM2'.out HX3.out HG3.out hb4 hg4);clear hb4 hg4;obtain ⟨n0,n1,n2,n3,n4,n5,n6,n7,n8⟩:=HT4.out.nine)
   | fail)
  have HB4:=Lib.hid (HB2.out.trans (HT4.out.bel.mono HB2.out.size))
  have HL4:=Lib.hid (HL2.out.keep HT4.out.bel)
  clear HM2 HM2' HB2 HL2 HX3 HG3
  clear n0 n1 n2 n3 n4 n5 n6 n7 n8
  have hR:=(HIS.out (by first | trivial | rfl)).1
  have hsn:=hR.inv.sane
  have hsz:(s1++s2).size≤9000:=by rw [ByteArray.size_append];omega
  have hadd:¬ 9223372036854775807 < s1.size+s2.size:=by omega
  have HP1:=Lib.hid (fun W h hL=>pparse_any (.slice pc M.chart.length cc) (.slice pf M.flows.length cf) (.slice pe M.ents.length ce) (.slice pl M.lines.length cl) M s1 W h hsn hL (by omega))
  have HP2:=Lib.hid (fun W h hL=>pparse_any (.slice pc M.chart.length cc) (.slice pf M.flows.length cf) (.slice pe M.ents.length ce) (.slice pl M.lines.length cl) M s2 W h hsn hL (by omega))
  have HP3:=Lib.hid (fun W h hL=>pparse_any (.slice pc M.chart.length cc) (.slice pf M.flows.length cf) (.slice pe M.ents.length ce) (.slice pl M.lines.length cl) M (s1++s2) W h hsn hL hsz)
  have HF1:=Lib.hid (fun h=>told_few (M:=M) (s:=s1) h)
  have HF2:=Lib.hid (fun h=>told_few (M:=M) (s:=s2) h)
  have HF3:Hid ((parseP M (s1++s2)).1.length≤1000):=Lib.hid (by
   by_cases h:(parseP M (s1++s2)).2=0
   ·have:=(told_few h).1
    omega
   ·rcases parseP_ways M (s1++s2) with ⟨T,_,_,h3,h4,h5⟩ | ⟨_,h1,_⟩
    ·rw [h5]
     have hl:=Fa.ofL_length T.facts
     omega
    ·rw [h1];simp)
  have hpt:∀ x y,parseP M s1=(x,0)→parseP M s2=(y,0)→_:=fun x y h1 h2=>parts h1 h2 (by omega) HEND.out
  have HSS:Hid (s1.size≤4000∧s2.size≤4000):=Lib.hid (by omega)
  obtain ⟨C1,hC1⟩:∃ C,(parseP M s1).1=C:=⟨_,rfl⟩
  obtain ⟨N1,hN1⟩:∃ N,(parseP M s1).2=N:=⟨_,rfl⟩
  obtain ⟨C2,hC2⟩:∃ C,(parseP M s2).1=C:=⟨_,rfl⟩
  obtain ⟨N2,hN2⟩:∃ N,(parseP M s2).2=N:=⟨_,rfl⟩
  have e1:parseP M s1=(C1,N1):=by rw [←hC1,←hN1]
  have e2:parseP M s2=(C2,N2):=by rw [←hC2,←hN2]
  obtain ⟨C3,hC3⟩:∃ C,(parseP M (s1++s2)).1=C:=⟨_,rfl⟩
  obtain ⟨N3,hN3⟩:∃ N,(parseP M (s1++s2)).2=N:=⟨_,rfl⟩
  have e3:parseP M (s1++s2)=(C3,N3):=by rw [←hC3,←hN3]
  have HPT:Hid (N1=0→N2=0→N3=7∨N3=2∨(Fa.ofL (C1++C2)).2=2∨(C3,N3)=Fa.ofL (C1++C2)):=Lib.hid (fun h1 h2=>by
   have:=hpt C1 C2 (by rw [e1,h1]) (by rw [e2,h2])
   rw [e3] at this
   exact this)
  unfold Fa.CubeTold at HP1 HP2 HP3
  simp only [hC1,hN1] at HP1 HF1
  simp only [hC2,hN2] at HP2 HF2
  simp only [hC3,hN3] at HP3
  rw [hC3] at HF3
  obtain ⟨s3,hs3⟩:∃ s3,s1++s2=s3:=⟨_,rfl⟩
  rw [hs3] at HP3
  clear hC1 hN1 hC2 hN2 hC3 hN3 e1 e2 e3 hpt hR hsn hsz
  refine (HP1.out _ HT4.out.mast HL4.out.2.2).mono ?_
  rintro en w5 ⟨u5,rfl,hf5,hb5⟩
  have HB5:=Lib.hid (HB4.out.trans (hb5.mono HB4.out.size))
  have HT5:=Lib.hid (HT4.out.keep hb5)
  have HL5:=Lib.hid (HL4.out.keep hb5)
  have HV5:=Lib.hid hf5
  clear hb5 hf5 HB4 HT4 HL4 HP1
  obtain ⟨n0,n1,n2,n3,n4,n5,n6,n7,n8⟩:=HT5.out.nine
  go_wp2_with fail
  clear n0 n1 n2 n3 n4 n5 n6 n7 n8
  refine (HP2.out _ HT5.out.mast HL5.out.2.2).mono ?_
  rintro en w6 ⟨u6,rfl,hf6,hb6⟩
  have HB6:=Lib.hid (HB5.out.trans (hb6.mono HB5.out.size))
  have HT6:=Lib.hid (HT5.out.keep hb6)
  have HL6:=Lib.hid (HL5.out.keep hb6)
  have HV6:=Lib.hid hf6
  have HV5b:=Lib.hid (ElsV.keep HV5.out hb6)
  clear hb6 hf6 HB5 HT5 HL5 HP2 HV5
  obtain ⟨n0,n1,n2,n3,n4,n5,n6,n7,n8⟩:=HT6.out.nine
  go_wp2_with fail
  clear n0 n1 n2 n3 n4 n5 n6 n7 n8 hadd
  try rw [hs3]
  clear hs3
  refine (HP3.out _ HT6.out.mast HL6.out.2.2).mono ?_
  rintro en w7 ⟨u7,rfl,hf7,hb7⟩
  have HB7:=Lib.hid (HB6.out.trans (hb7.mono HB6.out.size))
  have HV7:=Lib.hid hf7
  have HV5c:=Lib.hid (ElsV.keep HV5b.out hb7)
  have HV6c:=Lib.hid (ElsV.keep HV6.out hb7)
  clear hb7 hf7 HB6 HT6 HL6 HP3 HV5b HV6
  by_cases h1:N1=0
  rotate_left
  ·have h1':(N1 != 0)=true:=by simp [h1]
   clear h1
   go_wp2
   go_ret
   exact ⟨rfl,HB7.out⟩
  subst h1
  by_cases h2:N2=0
  rotate_left
  ·have h2':(N2 != 0)=true:=by simp [h2]
   clear h2
   go_wp2
   go_ret
   exact ⟨rfl,HB7.out⟩
  subst h2
  have hf1:=HF1.out rfl
  have hf2:=HF2.out rfl
  have hpt:=HPT.out rfl rfl
  have hss:=HSS.out
  have HAD:=Lib.hid (Fa.add_any u5 u6 C1 C2 w7 HV5c.out HV6c.out hf1.2 hf2.2 (by omega) (by omega))
  have HL4':Hid ((Fa.ofL (C1++C2)).1.length≤1000):=Lib.hid (by have:=Fa.ofL_length (C1++C2);rw [List.length_append] at this;omega)
  obtain ⟨C4,hC4⟩:∃ C,(Fa.ofL (C1++C2)).1=C:=⟨_,rfl⟩
  obtain ⟨N4,hN4⟩:∃ N,(Fa.ofL (C1++C2)).2=N:=⟨_,rfl⟩
  have HPQ:Hid (N3=7∨N3=2∨N4=2∨(C3=C4∧N3=N4)):=Lib.hid (by
   rcases hpt with h | h | h | h
   ·exact .inl h
   ·exact .inr (.inl h)
   ·exact .inr (.inr (.inl (by rw [←hN4];exact h)))
   ·exact .inr (.inr (.inr ⟨by rw [←hC4,←h],by rw [←hN4,←h]⟩)))
  unfold Fa.CubeTold at HAD
  rw [hC4,hN4] at HAD
  rw [hC4] at HL4'
  clear hC4 hN4 hf1 hf2 hpt hss HPT HF1 HF2
  go_wp2_with fail
  refine HAD.out.mono ?_
  rintro en w8 ⟨u8,rfl,hf8,hb8⟩
  have HB8:=Lib.hid (HB7.out.trans (hb8.mono HB7.out.size))
  have HV8:=Lib.hid hf8
  have HV7b:=Lib.hid (ElsV.keep HV7.out hb8)
  clear hb8 hf8 HB7 HV7 HV5c HV6c HAD
  by_cases h7:N3=7
  ·subst h7
   go_wp2
   go_ret
   exact ⟨rfl,HB8.out⟩
  have h7':(N3==7)=false:=by simpa using h7
  by_cases h2:N3=2
  ·subst h2
   go_wp2
   go_ret
   exact ⟨rfl,HB8.out⟩
  have h2':(N3==2)=false:=by simpa using h2
  by_cases h4:N4=2
  ·subst h4
   go_wp2
   go_ret
   exact ⟨rfl,HB8.out⟩
  have h4':(N4==2)=false:=by simpa using h4
  obtain ⟨h5,h6⟩:=((HPQ.out.resolve_left h7).resolve_left h2).resolve_left h4
  subst h5
  subst h6
  have h6':(N3==N3)=true:=by simp
  clear h7 h2 h4
  go_wp2_with fail
  refine (Fa.ours_any u7 C3 w8 HV7b.out (by have:=HF3.out;omega)).mono ?_
  rintro en w9 ⟨u9,rfl,ho9,hb9⟩
  have HB9:=Lib.hid (HB8.out.trans (hb9.mono HB8.out.size))
  have HV9:=Lib.hid (els_of_own (E:=Fa.encF) ho9)
  have HV8b:=Lib.hid (ElsV.keep HV8.out hb9)
  clear ho9 hb9 HB8 HV8 HV7b
  go_wp2_with fail
  refine (Fa.ours_any u8 C3 w9 HV8b.out (by have:=HF3.out;omega)).mono ?_
  rintro en wa ⟨ua,rfl,hoa,hba⟩
  have HBA:=Lib.hid (HB9.out.trans (hba.mono HB9.out.size))
  have HVA:=Lib.hid (els_of_own (E:=Fa.encF) hoa)
  have HV9b:=Lib.hid (ElsV.keep HV9.out hba)
  clear hoa hba HB9 HV9 HV8b
  go_wp2_with fail
  refine (Fa.same_any u9 ua C3 C3 wa HV9b.out HVA.out).mono ?_
  rintro en wb ⟨rfl,hbb⟩
  have HBB:=Lib.hid (HBA.out.trans (hbb.mono HBA.out.size))
  rw [show Fa.sameL C3 C3=true from decide_eq_true rfl]
  clear hbb
  go_wp2
  go_ret
  exact ⟨rfl,HBB.out⟩
 have HEND:Hid (s1.size=0∨∃ u,s1.data.toList=u++[10]):=Lib.hid (.inl hz)
 cases is with
 | false =>
   go_wp2_with (first
    | (refine wpList_store_mast rfl 30 (.tmp 7) (.tmp 23) rfl w2.heap.size nil4 nil4 nil4 nil4 (.slice pc M.chart.length cc) (.slice pf M.flows.length cf) (.slice pe M.ents.length ce) (.slice pl M.lines.length cl) zeroM M 30 rfl rfl (start1 w2) ⟨rfl,rfl,rfl,rfl⟩ (by kernel_rfl) ?_;intro w3 hb3 hg3;have HX3:=Lib.hid hb3;have HG3:=Lib.hid hg3;clear hb3 hg3)
    | (refine wpList_store_mast rfl 36 (.tmp 8) (.tmp 24) rfl (w2.heap.size+1) nil4 nil4 nil4 nil4 (.slice pc' M.chart.length cc') (.slice pf' M.flows.length cf') (.slice pe' M.ents.length ce') (.slice pl' M.lines.length cl') zeroM M 36 rfl rfl (start_keep HG3.out) ⟨rfl,rfl,rfl,rfl⟩ (by kernel_rfl) ?_;intro w4 hb4 hg4;have HT4:=Lib.hid (two_of HM2.out HM2'.out HX3.out HG3.out hb4 hg4);clear hb4 hg4)
    | fail)
   have HB4:=Lib.hid (HB2.out.trans (HT4.out.bel.mono HB2.out.size))
   go_ret
   exact ⟨rfl,HB4.out⟩
 | true =>
 go_wp2_with (first
  | (refine wpList_store_mast rfl 30 (.tmp 7) (.tmp 23) rfl w2.heap.size nil4 nil4 nil4 nil4 (.slice pc M.chart.length cc) (.slice pf M.flows.length cf) (.slice pe M.ents.length ce) (.slice pl M.lines.length cl) zeroM M 30 rfl rfl (start1 w2) ⟨rfl,rfl,rfl,rfl⟩ (by kernel_rfl) ?_;intro w3 hb3 hg3;have HX3:=Lib.hid hb3;have HG3:=Lib.hid hg3;clear hb3 hg3)
  | (refine wpList_store_mast rfl 36 (.tmp 8) (.tmp 24) rfl (w2.heap.size+1) nil4 nil4 nil4 nil4 (.slice pc' M.chart.length cc') (.slice pf' M.flows.length cf') (.slice pe' M.ents.length ce') (.slice pl' M.lines.length cl') zeroM M 36 rfl rfl (start_keep HG3.out) ⟨rfl,rfl,rfl,rfl⟩ (by kernel_rfl) ?_;intro w4 hb4 hg4;have HT4:=Lib.hid (two_of HM2.out HM2'.out HX3.out HG3.out hb4 hg4);clear hb4 hg4;obtain ⟨n0,n1,n2,n3,n4,n5,n6,n7,n8⟩:=HT4.out.nine)
  | fail)
 have HB4:=Lib.hid (HB2.out.trans (HT4.out.bel.mono HB2.out.size))
 have HL4:=Lib.hid (HL2.out.keep HT4.out.bel)
 clear HM2 HM2' HB2 HL2 HX3 HG3
 clear n0 n1 n2 n3 n4 n5 n6 n7 n8
 have hR:=(HIS.out (by first | trivial | rfl)).1
 have hsn:=hR.inv.sane
 have hsz:(s1++s2).size≤9000:=by rw [ByteArray.size_append];omega
 have hadd:¬ 9223372036854775807 < s1.size+s2.size:=by omega
 have HP1:=Lib.hid (fun W h hL=>pparse_any (.slice pc M.chart.length cc) (.slice pf M.flows.length cf) (.slice pe M.ents.length ce) (.slice pl M.lines.length cl) M s1 W h hsn hL (by omega))
 have HP2:=Lib.hid (fun W h hL=>pparse_any (.slice pc M.chart.length cc) (.slice pf M.flows.length cf) (.slice pe M.ents.length ce) (.slice pl M.lines.length cl) M s2 W h hsn hL (by omega))
 have HP3:=Lib.hid (fun W h hL=>pparse_any (.slice pc M.chart.length cc) (.slice pf M.flows.length cf) (.slice pe M.ents.length ce) (.slice pl M.lines.length cl) M (s1++s2) W h hsn hL hsz)
 have HF1:=Lib.hid (fun h=>told_few (M:=M) (s:=s1) h)
 have HF2:=Lib.hid (fun h=>told_few (M:=M) (s:=s2) h)
 have HF3:Hid ((parseP M (s1++s2)).1.length≤1000):=Lib.hid (by
  by_cases h:(parseP M (s1++s2)).2=0
  ·have:=(told_few h).1
   omega
  ·rcases parseP_ways M (s1++s2) with ⟨T,_,_,h3,h4,h5⟩ | ⟨_,h1,_⟩
   ·rw [h5]
    have hl:=Fa.ofL_length T.facts
    omega
   ·rw [h1];simp)
 have hpt:∀ x y,parseP M s1=(x,0)→parseP M s2=(y,0)→_:=fun x y h1 h2=>parts h1 h2 (by omega) HEND.out
 have HSS:Hid (s1.size≤4000∧s2.size≤4000):=Lib.hid (by omega)
 obtain ⟨C1,hC1⟩:∃ C,(parseP M s1).1=C:=⟨_,rfl⟩
 obtain ⟨N1,hN1⟩:∃ N,(parseP M s1).2=N:=⟨_,rfl⟩
 obtain ⟨C2,hC2⟩:∃ C,(parseP M s2).1=C:=⟨_,rfl⟩
 obtain ⟨N2,hN2⟩:∃ N,(parseP M s2).2=N:=⟨_,rfl⟩
 have e1:parseP M s1=(C1,N1):=by rw [←hC1,←hN1]
 have e2:parseP M s2=(C2,N2):=by rw [←hC2,←hN2]
 obtain ⟨C3,hC3⟩:∃ C,(parseP M (s1++s2)).1=C:=⟨_,rfl⟩
 obtain ⟨N3,hN3⟩:∃ N,(parseP M (s1++s2)).2=N:=⟨_,rfl⟩
 have e3:parseP M (s1++s2)=(C3,N3):=by rw [←hC3,←hN3]
 have HPT:Hid (N1=0→N2=0→N3=7∨N3=2∨(Fa.ofL (C1++C2)).2=2∨(C3,N3)=Fa.ofL (C1++C2)):=Lib.hid (fun h1 h2=>by
  have:=hpt C1 C2 (by rw [e1,h1]) (by rw [e2,h2])
  rw [e3] at this
  exact this)
 unfold Fa.CubeTold at HP1 HP2 HP3
 simp only [hC1,hN1] at HP1 HF1
 simp only [hC2,hN2] at HP2 HF2
 simp only [hC3,hN3] at HP3
 rw [hC3] at HF3
 obtain ⟨s3,hs3⟩:∃ s3,s1++s2=s3:=⟨_,rfl⟩
 rw [hs3] at HP3
 clear hC1 hN1 hC2 hN2 hC3 hN3 e1 e2 e3 hpt hR hsn hsz
 refine (HP1.out _ HT4.out.mast HL4.out.2.2).mono ?_
 rintro en w5 ⟨u5,rfl,hf5,hb5⟩
 have HB5:=Lib.hid (HB4.out.trans (hb5.mono HB4.out.size))
 have HT5:=Lib.hid (HT4.out.keep hb5)
 have HL5:=Lib.hid (HL4.out.keep hb5)
 have HV5:=Lib.hid hf5
 clear hb5 hf5 HB4 HT4 HL4 HP1
 obtain ⟨n0,n1,n2,n3,n4,n5,n6,n7,n8⟩:=HT5.out.nine
 go_wp2_with fail
 clear n0 n1 n2 n3 n4 n5 n6 n7 n8
 refine (HP2.out _ HT5.out.mast HL5.out.2.2).mono ?_
 rintro en w6 ⟨u6,rfl,hf6,hb6⟩
 have HB6:=Lib.hid (HB5.out.trans (hb6.mono HB5.out.size))
 have HT6:=Lib.hid (HT5.out.keep hb6)
 have HL6:=Lib.hid (HL5.out.keep hb6)
 have HV6:=Lib.hid hf6
 have HV5b:=Lib.hid (ElsV.keep HV5.out hb6)
 clear hb6 hf6 HB5 HT5 HL5 HP2 HV5
 obtain ⟨n0,n1,n2,n3,n4,n5,n6,n7,n8⟩:=HT6.out.nine
 go_wp2_with fail
 clear n0 n1 n2 n3 n4 n5 n6 n7 n8 hadd
 try rw [hs3]
 clear hs3
 refine (HP3.out _ HT6.out.mast HL6.out.2.2).mono ?_
 rintro en w7 ⟨u7,rfl,hf7,hb7⟩
 have HB7:=Lib.hid (HB6.out.trans (hb7.mono HB6.out.size))
 have HV7:=Lib.hid hf7
 have HV5c:=Lib.hid (ElsV.keep HV5b.out hb7)
 have HV6c:=Lib.hid (ElsV.keep HV6.out hb7)
 clear hb7 hf7 HB6 HT6 HL6 HP3 HV5b HV6
 by_cases h1:N1=0
 rotate_left
 ·have h1':(N1 != 0)=true:=by simp [h1]
  clear h1
  go_wp2
  go_ret
  exact ⟨rfl,HB7.out⟩
 subst h1
 by_cases h2:N2=0
 rotate_left
 ·have h2':(N2 != 0)=true:=by simp [h2]
  clear h2
  go_wp2
  go_ret
  exact ⟨rfl,HB7.out⟩
 subst h2
 have hf1:=HF1.out rfl
 have hf2:=HF2.out rfl
 have hpt:=HPT.out rfl rfl
 have hss:=HSS.out
 have HAD:=Lib.hid (Fa.add_any u5 u6 C1 C2 w7 HV5c.out HV6c.out hf1.2 hf2.2 (by omega) (by omega))
 have HL4':Hid ((Fa.ofL (C1++C2)).1.length≤1000):=Lib.hid (by have:=Fa.ofL_length (C1++C2);rw [List.length_append] at this;omega)
 obtain ⟨C4,hC4⟩:∃ C,(Fa.ofL (C1++C2)).1=C:=⟨_,rfl⟩
 obtain ⟨N4,hN4⟩:∃ N,(Fa.ofL (C1++C2)).2=N:=⟨_,rfl⟩
 have HPQ:Hid (N3=7∨N3=2∨N4=2∨(C3=C4∧N3=N4)):=Lib.hid (by
  rcases hpt with h | h | h | h
  ·exact .inl h
  ·exact .inr (.inl h)
  ·exact .inr (.inr (.inl (by rw [←hN4];exact h)))
  ·exact .inr (.inr (.inr ⟨by rw [←hC4,←h],by rw [←hN4,←h]⟩)))
 unfold Fa.CubeTold at HAD
 rw [hC4,hN4] at HAD
 rw [hC4] at HL4'
 clear hC4 hN4 hf1 hf2 hpt hss HPT HF1 HF2
 go_wp2_with fail
 refine HAD.out.mono ?_
 rintro en w8 ⟨u8,rfl,hf8,hb8⟩
 have HB8:=Lib.hid (HB7.out.trans (hb8.mono HB7.out.size))
 have HV8:=Lib.hid hf8
 have HV7b:=Lib.hid (ElsV.keep HV7.out hb8)
 clear hb8 hf8 HB7 HV7 HV5c HV6c HAD
 by_cases h7:N3=7
 ·subst h7
  go_wp2
  go_ret
  exact ⟨rfl,HB8.out⟩
 have h7':(N3==7)=false:=by simpa using h7
 by_cases h2:N3=2
 ·subst h2
  go_wp2
  go_ret
  exact ⟨rfl,HB8.out⟩
 have h2':(N3==2)=false:=by simpa using h2
 by_cases h4:N4=2
 ·subst h4
  go_wp2
  go_ret
  exact ⟨rfl,HB8.out⟩
 have h4':(N4==2)=false:=by simpa using h4
 obtain ⟨h5,h6⟩:=((HPQ.out.resolve_left h7).resolve_left h2).resolve_left h4
 subst h5
 subst h6
 have h6':(N3==N3)=true:=by simp
 clear h7 h2 h4
 go_wp2_with fail
 refine (Fa.ours_any u7 C3 w8 HV7b.out (by have:=HF3.out;omega)).mono ?_
 rintro en w9 ⟨u9,rfl,ho9,hb9⟩
 have HB9:=Lib.hid (HB8.out.trans (hb9.mono HB8.out.size))
 have HV9:=Lib.hid (els_of_own (E:=Fa.encF) ho9)
 have HV8b:=Lib.hid (ElsV.keep HV8.out hb9)
 clear ho9 hb9 HB8 HV8 HV7b
 go_wp2_with fail
 refine (Fa.ours_any u8 C3 w9 HV8b.out (by have:=HF3.out;omega)).mono ?_
 rintro en wa ⟨ua,rfl,hoa,hba⟩
 have HBA:=Lib.hid (HB9.out.trans (hba.mono HB9.out.size))
 have HVA:=Lib.hid (els_of_own (E:=Fa.encF) hoa)
 have HV9b:=Lib.hid (ElsV.keep HV9.out hba)
 clear hoa hba HB9 HV9 HV8b
 go_wp2_with fail
 refine (Fa.same_any u9 ua C3 C3 wa HV9b.out HVA.out).mono ?_
 rintro en wb ⟨rfl,hbb⟩
 have HBB:=Lib.hid (HBA.out.trans (hbb.mono HBA.out.size))
 rw [show Fa.sameL C3 C3=true from decide_eq_true rfl]
 clear hbb
 go_wp2
 go_ret
 exact ⟨rfl,HBB.out⟩
end Go.Proofs.YtdegffffcbhjbaaGreatDoor.Pk
