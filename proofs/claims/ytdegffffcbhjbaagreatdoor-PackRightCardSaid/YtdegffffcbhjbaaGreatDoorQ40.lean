/- FaFacts PkFacts PackRight -/
import Derived.Test.YtdegffffcbhjbaaGreatDoorQ29
import Derived.Test.YtdegffffcbhjbaaGreatDoorQ33
section
namespace Go.Proofs.YtdegffffcbhjbaaGreatDoor.Fa
theorem cube_nz (l:List Fact):∀ f∈cube l,f.amt≠0:=fun _ hf=>(mem_cube.1 hf).2
theorem cube_right (l:List Fact) (h:l.length≤2000):rightL (cube l)=true:=decide_eq_true ⟨Nat.le_trans (cube_length l) h,cube_nz l,cube_rise l⟩
end Go.Proofs.YtdegffffcbhjbaaGreatDoor.Fa
end
section
namespace Go.Proofs.YtdegffffcbhjbaaGreatDoor.Pk
open Go.RowKit Go.Proofs.YtdegffffcbhjbaaGreatDoor.Un Go.Proofs.YtdegffffcbhjbaaGreatDoor.Fa
theorem cube_key {l:List Fact} {f:Fact} (h:f∈cube l):∃ g∈l,g.key=f.key:=by
 obtain ⟨h1,h2⟩:=mem_cube.1 h
 by_cases hk:f.key∈keysL l
 ·exact mem_keys.1 hk
 ·rw [isum_no hk] at h1;exact absurd h1 h2
end Go.Proofs.YtdegffffcbhjbaaGreatDoor.Pk
end
section
namespace Go.Proofs.YtdegffffcbhjbaaGreatDoor.Pk
open Go.RowKit Go.Maps Go.Proofs.YtdegffffcbhjbaaGreatDoor.Un
theorem told_right {M:Mast} {s:ByteArray} (h:(parseP M s).2=0) (hs:s.size≤9000):(∀ f∈(parseP M s).1,checkE M f.key=0∧(f.key.m=0∨f.key.m=1))∧Fa.rightL (parseP M s).1=true∧(parseP M s).1.length≤1000:=by
 rcases parseP_ways M s with ⟨T,_,_,h3,h4,h5⟩ | ⟨h1,_⟩
 ·rw [h5] at h ⊢
  rcases ofL_ways T.facts with e | e
  ·rw [e]
   have hl:=Fa.cube_length T.facts
   refine ⟨fun f hf=>?_,Fa.cube_right _ (by omega),by show (Fa.cube T.facts).length≤1000;omega⟩
   obtain ⟨g,hg,e1⟩:=cube_key hf
   have:=(h3.ok g hg).2
   rw [e1] at this
   exact this
  ·rw [e] at h;cases h
 ·exact absurd h h1
theorem told_none {M:Mast} {s:ByteArray} (h:(parseP M s).2≠0):(parseP M s).1=[]:=by
 rcases parseP_ways M s with ⟨T,_,_,_,_,h5⟩ | ⟨_,h1,_⟩
 ·rw [h5] at h ⊢
  rcases ofL_ways T.facts with e | e
  ·rw [e] at h;exact absurd rfl h
  ·rw [e]
 ·exact h1
set_option maxRecDepth 100000 in
set_option maxHeartbeats 16000000 in
theorem packRight_walk (s0 s1:ByteArray) (w:World) (_hs0:s0.size≤maxLen) (_hs1:s1.size≤maxLen) (hU:LaidP w):Calls Tryz.prog 5 #[.string s0,.string s1] w fun en w'=>en=.returned (.bool true)∧Below w.heap.size w w':=by
 have HL:=Lib.hid hU
 clear hU _hs0 _hs1
 go_enter Tryz.func5,Tryz.ntmps5
 go_wp2_with fail
 refine (alive11_any _ HL.out).mono ?_
 rintro en w1 ⟨rfl,hb1⟩
 have HB1:=Lib.hid hb1
 have HL1:=Lib.hid (HL.out.keep hb1)
 clear hb1
 go_wp2_with fail
 refine (master_any s0 _ HL1.out.1 HL1.out.2.1).mono ?_
 rintro en w2 ⟨M,c,f,e,l,c',f',e',l',is,rfl,hm,hm',hb2,his⟩
 obtain ⟨pc,cc,pf,cf,pe,ce,pl,cl,rfl,rfl,rfl,rfl⟩:=shapes hm
 obtain ⟨pc',cc',pf',cf',pe',ce',pl',cl',rfl,rfl,rfl,rfl⟩:=shapes hm'
 have HM2:=Lib.hid hm
 have HM2':=Lib.hid hm'
 have HB2:=Lib.hid (HB1.out.trans (hb2.mono HB1.out.size))
 have HL2:=Lib.hid (HL1.out.keep hb2)
 have HIS:=Lib.hid his
 clear hm hm' hb2 his HB1 HL1
 by_cases hs1:4000 < s1.size
 ·cases is
  all_goals
   go_wp2_with (first
    | (refine wpList_store_mast rfl 30 (.tmp 5) (.tmp 17) rfl w2.heap.size nil4 nil4 nil4 nil4 (.slice pc M.chart.length cc) (.slice pf M.flows.length cf) (.slice pe M.ents.length ce) (.slice pl M.lines.length cl) zeroM M 30 rfl rfl (start1 w2) ⟨rfl,rfl,rfl,rfl⟩ (by kernel_rfl) ?_;intro w3 hb3 hg3;have HX3:=Lib.hid hb3;have HG3:=Lib.hid hg3;clear hb3 hg3)
    | (refine wpList_store_mast rfl 36 (.tmp 6) (.tmp 18) rfl (w2.heap.size+1) nil4 nil4 nil4 nil4 (.slice pc' M.chart.length cc') (.slice pf' M.flows.length cf') (.slice pe' M.ents.length ce') (.slice pl' M.lines.length cl') zeroM M 36 rfl rfl (start_keep HG3.out) ⟨rfl,rfl,rfl,rfl⟩ (by kernel_rfl) ?_;intro w4 hb4 hg4;have HT4:=Lib.hid (two_of HM2.out HM2'.out HX3.out HG3.out hb4 hg4);clear hb4 hg4)
    | fail)
   have HB4:=Lib.hid (HB2.out.trans (HT4.out.bel.mono HB2.out.size))
   go_ret
   exact ⟨rfl,HB4.out⟩
 cases is with
 | false =>
   go_wp2_with (first
    | (refine wpList_store_mast rfl 30 (.tmp 5) (.tmp 17) rfl w2.heap.size nil4 nil4 nil4 nil4 (.slice pc M.chart.length cc) (.slice pf M.flows.length cf) (.slice pe M.ents.length ce) (.slice pl M.lines.length cl) zeroM M 30 rfl rfl (start1 w2) ⟨rfl,rfl,rfl,rfl⟩ (by kernel_rfl) ?_;intro w3 hb3 hg3;have HX3:=Lib.hid hb3;have HG3:=Lib.hid hg3;clear hb3 hg3)
    | (refine wpList_store_mast rfl 36 (.tmp 6) (.tmp 18) rfl (w2.heap.size+1) nil4 nil4 nil4 nil4 (.slice pc' M.chart.length cc') (.slice pf' M.flows.length cf') (.slice pe' M.ents.length ce') (.slice pl' M.lines.length cl') zeroM M 36 rfl rfl (start_keep HG3.out) ⟨rfl,rfl,rfl,rfl⟩ (by kernel_rfl) ?_;intro w4 hb4 hg4;have HT4:=Lib.hid (two_of HM2.out HM2'.out HX3.out HG3.out hb4 hg4);clear hb4 hg4)
    | fail)
   have HB4:=Lib.hid (HB2.out.trans (HT4.out.bel.mono HB2.out.size))
   go_ret
   exact ⟨rfl,HB4.out⟩
 | true =>
 go_wp2_with (first
  | (refine wpList_store_mast rfl 30 (.tmp 5) (.tmp 17) rfl w2.heap.size nil4 nil4 nil4 nil4 (.slice pc M.chart.length cc) (.slice pf M.flows.length cf) (.slice pe M.ents.length ce) (.slice pl M.lines.length cl) zeroM M 30 rfl rfl (start1 w2) ⟨rfl,rfl,rfl,rfl⟩ (by kernel_rfl) ?_;intro w3 hb3 hg3;have HX3:=Lib.hid hb3;have HG3:=Lib.hid hg3;clear hb3 hg3)
  | (refine wpList_store_mast rfl 36 (.tmp 6) (.tmp 18) rfl (w2.heap.size+1) nil4 nil4 nil4 nil4 (.slice pc' M.chart.length cc') (.slice pf' M.flows.length cf') (.slice pe' M.ents.length ce') (.slice pl' M.lines.length cl') zeroM M 36 rfl rfl (start_keep HG3.out) ⟨rfl,rfl,rfl,rfl⟩ (by kernel_rfl) ?_;intro w4 hb4 hg4;have HT4:=Lib.hid (two_of HM2.out HM2'.out HX3.out HG3.out hb4 hg4);clear hb4 hg4;obtain ⟨n0,n1,n2,n3,n4,n5,n6,n7,n8⟩:=HT4.out.nine)
  | fail)
 have HB4:=Lib.hid (HB2.out.trans (HT4.out.bel.mono HB2.out.size))
 have HL4:=Lib.hid (HL2.out.keep HT4.out.bel)
 clear HM2 HM2' HB2 HL2 HX3 HG3
 clear n0 n1 n2 n3 n4 n5 n6 n7 n8
 have hR:=(HIS.out (by first | trivial | rfl)).1
 have hsn:=hR.inv.sane
 have HSN:=Lib.hid hsn
 have HPP:=Lib.hid (fun W h hL=>pparse_any (.slice pc M.chart.length cc) (.slice pf M.flows.length cf) (.slice pe M.ents.length ce) (.slice pl M.lines.length cl) M s1 W h hsn hL (by omega))
 have HYES:=Lib.hid (fun h=>told_right (M:=M) (s:=s1) h (by omega))
 have HNO:=Lib.hid (fun h=>told_none (M:=M) (s:=s1) h)
 obtain ⟨C,hC⟩:∃ C,(parseP M s1).1=C:=⟨_,rfl⟩
 obtain ⟨N,hN⟩:∃ N,(parseP M s1).2=N:=⟨_,rfl⟩
 unfold Fa.CubeTold at HPP
 simp only [hC,hN] at HPP HYES HNO
 clear hC hN hR hsn hs1
 refine (HPP.out _ HT4.out.mast HL4.out.2.2).mono ?_
 rintro en w5 ⟨u5,rfl,hf5,hb5⟩
 have HB5:=Lib.hid (HB4.out.trans (hb5.mono HB4.out.size))
 have HT5:=Lib.hid (HT4.out.keep hb5)
 have HF5:=Lib.hid hf5
 clear hb5 hf5 HB4 HT4 HL4 HPP
 obtain ⟨p5,c5,rfl,hcap5,hm5,_,hc5⟩:=HF5.out
 have HC5:=Lib.hid hc5
 obtain ⟨n,hn⟩:∃ n,C.length=n:=⟨_,rfl⟩
 rw [hn] at hcap5 HF5 ⊢
 have HN:=Lib.hid hn
 unfold maxLen at hm5
 clear hc5
 by_cases h0:N=0
 rotate_left
 ·have hnn:n=0:=by rw [←hn,HNO.out h0];rfl
  have h0':(N != 0)=true:=by simp [h0]
  subst hnn
  clear h0 hn
  go_wp2
  go_ret
  exact ⟨by simp,HB5.out⟩
 subst h0
 obtain ⟨hy1,hy2,hy3⟩:=HYES.out rfl
 have HY1:=Lib.hid hy1
 have HY2:=Lib.hid hy2
 have HY3:=Lib.hid hy3
 rw [hn] at hy3
 clear hy1 hy2 hn HYES HNO
 go_wp2
 go_loopw [40] (fun s40 wr=>∃ i:Nat,i≤n∧s40=.int .i64 (i:Int)∧Hid (Below w5.heap.size w5 wr)) (fun s40 _=>n - (intOf s40).toNat)
 case atStart=>exact ⟨0,Nat.zero_le _,rfl,Lib.hid (Below.refl _ _)⟩
 case round =>
  obtain ⟨i,hi,rfl,HBR⟩:=hrel
  by_cases hlt:i < n
  ·obtain ⟨x,hx⟩:∃ x,C[i]?=some x:=⟨_,List.getElem?_eq_getElem (by rw [HN.out];exact hlt)⟩
   obtain ⟨b,o,rfl,hat⟩:=HC5.out i x hx
   obtain ⟨f0,f1,f2,f3,f4,f5⟩:=Fa.fact6 (hat.keep HBR.out hat.lt)
   simp only [show Fa.encF.k=6 from rfl] at f0 f1 f2 f3 f4 f5
   obtain ⟨hck,hmk⟩:=HY1.out x (List.mem_of_getElem? hx)
   have hb6:=(Below.refl wr.heap.size wr).alloc (Nat.le_refl _) (.cells (fCells x) 58)
   have HX6:Hid (ElAt Fa.encF (wr.alloc (.cells (fCells x) 58)) wr.heap.size 0 x):=Lib.hid (el_new Fa.encF wr x 58)
   have HB6:=Lib.hid (HBR.out.trans (hb6.mono HBR.out.size))
   obtain ⟨y0,y1,y2,y3,y4,y5⟩:=Fa.fact6 HX6.out
   simp only [Nat.zero_add] at y0 y1 y2 y3 y4 y5
   obtain ⟨n0,n1,n2,n3,n4,n5,n6,n7,n8⟩:=(HT5.out.keep HB6.out).nine
   have HCK:=Lib.hid (check_any (.slice pc M.chart.length cc) (.slice pf M.flows.length cf) (.slice pe M.ents.length ce) (.slice pl M.lines.length cl) M x _ (HT5.out.keep HB6.out).mast (Fl.rise_codes HSN.out.fl) (by have:=HSN.out.lf;omega))
   rw [hck] at HCK
   have HMK:=Lib.hid hmk
   clear hx hat hck hmk hb6
   go_wp2_with fail
   clear f0 f1 f2 f3 f4 f5 y0 y1 y2 y3 y4 y5 n0 n1 n2 n3 n4 n5 n6 n7 n8
   refine HCK.out.mono ?_
   rintro en w7 ⟨rfl,hb7⟩
   have HB7:=Lib.hid (HB6.out.trans (hb7.mono HB6.out.size))
   obtain ⟨y0,y1,y2,y3,y4,y5⟩:=Fa.fact6 (HX6.out.keep hb7 HX6.out.lt)
   simp only [Nat.zero_add] at y0 y1 y2 y3 y4 y5
   clear hb7
   rcases HMK.out with hm0 | hm1
   ·rw [hm0] at y4
    clear hm0
    go_wp2
    go_roundw
    case rel=>exact ⟨i+1,by omega,by go_num,HB7⟩
    case measure=>simp [intOf];omega
   ·rw [hm1] at y4
    clear hm1
    go_wp2
    go_roundw
    case rel=>exact ⟨i+1,by omega,by go_num,HB7⟩
    case measure=>simp [intOf];omega
  ·have HRT:=Lib.hid (Fa.right_any _ C wr (ElsV.keep HF5.out HBR.out) (by have:=HY3.out;omega))
   rw [HY2.out] at HRT
   have HBT:=Lib.hid (HB5.out.trans (HBR.out.mono HB5.out.size))
   go_wp2_with fail
   refine HRT.out.mono ?_
   rintro en w8 ⟨rfl,hb8⟩
   have HB8:=Lib.hid (HBT.out.trans (hb8.mono HBT.out.size))
   clear hb8
   go_wp2
   go_ret
   exact ⟨rfl,HB8.out⟩
end Go.Proofs.YtdegffffcbhjbaaGreatDoor.Pk
end
