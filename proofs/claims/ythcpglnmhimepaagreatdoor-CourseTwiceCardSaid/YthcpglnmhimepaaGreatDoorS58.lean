/- UnitBackP CsPlain CsLines CourseTwice -/
import Derived.Test.YthcpglnmhimepaaGreatDoorS42
import Derived.Test.YthcpglnmhimepaaGreatDoorS43
import Derived.Test.YthcpglnmhimepaaGreatDoorS47
import Derived.Test.YthcpglnmhimepaaGreatDoorS52
section
namespace Go.Proofs.YthcpglnmhimepaaGreatDoor.Un
open Go.RowKit
theorem runM_append (l k:List (List ByteArray)) (M:Mast):runM M (l++k)=if (runM M l).2=0 then runM (runM M l).1 k else runM M l:=by
 induction l generalizing M with
 | nil=>simp [runM]
 | cons ws l ih =>
   rw [List.cons_append]
   by_cases hs:stepE M ws=0
   ·rw [runM_cons _ _ _ hs,runM_cons _ _ _ hs,ih]
   ·rw [runM_stop _ _ _ hs,runM_stop _ _ _ hs,if_neg hs]
theorem one_twice {l:List (List ByteArray)} {x t:ByteArray} {ws:List ByteArray} (h:l.filterMap (onO t)=oneL x) (hw:ws∈l) (h0:wd ws 0=t) (hf:formedW ws=true):oneE x=7:=by
 have hm:wd ws 1∈l.filterMap (onO t):=List.mem_filterMap.2 ⟨ws,hw,onO_yes h0 hf⟩
 rw [h] at hm
 unfold oneE
 split
 ·rename_i e;rw [e,oneL_no] at hm;cases hm
 ·rfl
theorem step_twice {l:List (List ByteArray)} {M:Mast} {ws:List ByteArray} (h:Inv l M) (hw:ws∈l):stepE M ws=7:=by
 unfold stepE
 rcases h.good ws hw with ⟨w0,hp⟩ | ⟨w0,hp⟩ | hf
 ·rw [if_pos w0,if_pos hp]
  have hm:(parseA ws).1∈M.chart:=(h.chart.mem_iff).2 (List.mem_filterMap.2 ⟨ws,hw,acO_yes w0 hp⟩)
  unfold addE
  rw [(parse_ok hp).2,findL_some hm,if_neg (by simp),if_pos rfl]
 ·rw [if_neg (by rw [w0];decide),if_pos w0,if_pos hp]
  have hm:(Fl.parseF ws).1∈M.flows:=(h.flows.mem_iff).2 (List.mem_filterMap.2 ⟨ws,hw,flO_yes w0 hp⟩)
  have hrise:=Fl.rise_codes h.sane.fl
  have hk:isK Fl.Flow.code M.flows (Fl.parseF ws).1.code=true:=by rw [(isK_find hrise _).1,findK_of_mem hrise hm];rfl
  unfold Fl.addE
  rw [h.rightF _ hm,hk,if_neg (by simp),if_pos (by simp)]
 ·rcases formed_ways hf with ⟨w0,_⟩ | ⟨w0,_⟩ | ⟨w0,_⟩
  ·rw [if_neg (by rw [w0];decide),if_neg (by rw [w0];decide),if_neg (by rw [hf];simp),if_pos w0]
   have hm:entOf ws∈M.ents:=(h.ents.mem_iff).2 (List.mem_filterMap.2 ⟨ws,hw,enO_yes w0 hf⟩)
   unfold entE
   rw [findG_some (key:=Ent.code) hm,if_pos rfl]
  ·rw [if_neg (by rw [w0];decide),if_neg (by rw [w0];decide),if_neg (by rw [hf];simp),if_neg (by rw [w0];decide),if_pos w0]
   have hm:linOf ws∈M.lines:=(h.lines.mem_iff).2 (List.mem_filterMap.2 ⟨ws,hw,liO_yes w0 hf⟩)
   unfold linEr
   rw [findG_some (key:=Lin.key) hm,if_pos rfl]
  ·rw [if_neg (by rcases w0 with w0 | w0 | w0 | w0 | w0 <;> rw [w0] <;> decide),if_neg (by rcases w0 with w0 | w0 | w0 | w0 | w0 <;> rw [w0] <;> decide),if_neg (by rw [hf];simp),if_neg (by rcases w0 with w0 | w0 | w0 | w0 | w0 <;> rw [w0] <;> decide),if_neg (by rcases w0 with w0 | w0 | w0 | w0 | w0 <;> rw [w0] <;> decide)]
   rcases w0 with w0 | w0 | w0 | w0 | w0
   ·rw [if_pos w0];exact one_twice h.cur hw w0 hf
   ·rw [if_neg (by rw [w0];decide),if_pos w0];exact one_twice h.res hw w0 hf
   ·rw [if_neg (by rw [w0];decide),if_neg (by rw [w0];decide),if_pos w0];exact one_twice h.dif hw w0 hf
   ·rw [if_neg (by rw [w0];decide),if_neg (by rw [w0];decide),if_neg (by rw [w0];decide),if_pos w0];exact one_twice h.min hw w0 hf
   ·rw [if_neg (by rw [w0];decide),if_neg (by rw [w0];decide),if_neg (by rw [w0];decide),if_neg (by rw [w0];decide)];exact one_twice h.stk hw w0 hf
theorem lines_twice {l:List (List ByteArray)} {M:Mast} {ws:List ByteArray} (hr:runM zeroM l=(M,0)) (hw:ws∈l):linesM (l++[ws])=(zeroM,7):=by
 have h7:=step_twice (run_zero_of hr) hw
 unfold linesM
 rw [runM_append,hr,if_pos rfl,runM_stop _ _ _ (by rw [h7];decide),h7,endM_stop _ (by decide)]
end Go.Proofs.YthcpglnmhimepaaGreatDoor.Un
end
section
namespace Go.Proofs.YthcpglnmhimepaaGreatDoor.Cs
open Go.RowKit Go.Proofs.YthcpglnmhimepaaGreatDoor.Un Go.Proofs.YthcpglnmhimepaaGreatDoor.Pk
def t79:ByteArray:=⟨#[55,47,57]⟩
theorem t79_rate:prsE t79.data.toList=0:=by
 have h:=prs_prt (n:=7) (d:=9) (by decide)
 rw [show prt 7 9=t79.data.toList by decide +kernel] at h
 exact h.1
theorem step_twice {M:Mast} {l:List (List ByteArray)} {L:List Crs} {ws:List ByteArray} (h:Inv M l L) (hw:ws∈l):stepE M L (ws.set (ws.length - 1) t79)=7:=by
 have ho:=h.good ws hw
 have hf:=h.find hw
 have key:∀ ws':List ByteArray,formC ws'=true→rateW ws'=t79.data.toList→(readV ws').key=(readV ws).key→stepE M L ws'=7:=fun ws' h1 h2 h3=>by
  have e1:(readV ws').sort=(readV ws).sort:=congrArg (·.1) h3
  have e2:(readV ws').flw=(readV ws).flw:=congrArg (·.2.1) h3
  have e3:(readV ws').cur=(readV ws).cur:=congrArg (·.2.2) h3
  have hfl:flowE M (readV ws')=0:=by
   have:=ho.flow
   unfold flowE at this ⊢
   rw [e1,e2];exact this
  unfold stepE readE rightE
  rw [if_pos h1,h2,if_pos t79_rate,if_neg (by rw [hfl];simp),if_neg (by rw [e3];exact ho.cur)]
  unfold tabE
  rw [h3,hf,if_pos (by rfl)]
 rcases form_ways ho.form with ⟨t,c,r,rfl,h1,h2⟩ | ⟨f,c,r,rfl,h1,h2⟩
 ·refine key [t,c,t79] ?_ rfl ?_
  ·unfold formC
   show ((decide True && simB t && nmB c) || _)=true
   rw [h1,h2];simp
  ·show (t,(if t=tFlow then c else emp),c)=(t,(if t=tFlow then c else emp),c)
   rfl
 ·refine key [tFlow,f,c,t79] ?_ rfl rfl
  unfold formC
  show (_ || (decide True && decide (tFlow=tFlow) && nmB f && nmB c))=true
  rw [h1,h2];simp
theorem lines_twice {M:Mast} {l:List (List ByteArray)} {L:List Crs} {ws:List ByteArray} (h:runC M [] l=(L,0)) (hw:ws∈l):runC M [] (l++[ws.set (ws.length - 1) t79])=([],7):=by
 have h1:=step_twice (run_zero_of h) hw
 rw [runC_append,h,if_pos rfl,runC_stop _ (by rw [h1];simp),h1]
end Go.Proofs.YthcpglnmhimepaaGreatDoor.Cs
end
section
namespace Go.Proofs.YthcpglnmhimepaaGreatDoor.Cs
open Go.RowKit Go.Proofs.YthcpglnmhimepaaGreatDoor.Un Go.Proofs.YthcpglnmhimepaaGreatDoor.Pk
open Go.Lib (itoa)
theorem part_one {W:World} {Bw g:Nat} {n:Int} {ws:List ByteArray} {u:Value} (c0:W.cell? ⟨g,0,none⟩=some (.int .i64 n)) (c1:W.cell? ⟨g,1,none⟩=some u) (hu:W.ownsRow Bw 9 1 u ws.length (ws.map Value.string)):HadPart W Bw ⟨g,0,none⟩ [(n,ws)]:=by
 refine ⟨[(n,u)],fun j v hj=>?_,rfl,fun i x y hx hy=>?_⟩
 ·match j,hj with
  | 0,hj=>cases hj;rw [add_off];exact c0
  | 1,hj=>cases hj;rw [add_off];exact c1
  | j+2,hj=>simp [flatL] at hj
 ·match i,hx,hy with
  | 0,hx,hy=>cases hx;cases hy;exact ⟨rfl,hu⟩
theorem twice_back {M:Mast} {s:ByteArray} {T:List Crs} (hr:runC M [] (wordsT s)=(T,0)) (hs:s.size≤4000) {L:List (Int × List ByteArray)} (hW:wordsT s=L.map (·.2)) {ws:List ByteArray} (hw:ws∈wordsT s) {X:ByteArray} (hX:mkB (joinL (L++[(0,ws.set (ws.length - 1) t79)]))=X):parseC M X=([],7)∧X.size≤29000:=by
 have hi:=run_zero_of hr
 obtain ⟨f1,f2,f3⟩:=line_few (hi.good ws hw)
 have h1:=text_size s
 have e:(L++[((0:Int),ws.set (ws.length - 1) t79)]).map (·.2)=wordsT s++[ws.set (ws.length - 1) t79]:=by rw [List.map_append,hW];rfl
 have h3:∀ y∈ws.set (ws.length - 1) t79,y.size≤100:=fun y hy=>by
  rcases List.mem_or_eq_of_mem_set hy with h | h
  ·exact f3 y h
  ·rw [h];decide
 have hz:szW (ws.set (ws.length - 1) t79)≤405:=by
  rcases form_ways (hi.good ws hw).form with ⟨t,c,r,rfl,_,_⟩ | ⟨f,c,r,rfl,_,_⟩
  ·have a0:=h3 t (by simp)
   have a1:=h3 c (by simp)
   have a2:=h3 t79 (by simp)
   show szW [t,c,t79]≤405
   unfold szW
   rw [lineL_two,lineL_two,lineL_one]
   simp only [List.length_append,List.length_cons,List.length_nil,size_list]
   omega
  ·have a0:=h3 tFlow (by simp)
   have a1:=h3 f (by simp)
   have a2:=h3 c (by simp)
   have a3:=h3 t79 (by simp)
   show szW [tFlow,f,c,t79]≤405
   unfold szW
   rw [lineL_two,lineL_two,lineL_two,lineL_one]
   simp only [List.length_append,List.length_cons,List.length_nil,size_list]
   omega
 have hsz:szL (wordsT s++[ws.set (ws.length - 1) t79])≤5000:=by
  rw [szL_append]
  have:szL [ws.set (ws.length - 1) t79]=szW (ws.set (ws.length - 1) t79):=by simp [szL]
  omega
 have hrt:∀ us∈wordsT s++[ws.set (ws.length - 1) t79],rightW us:=fun us hu=>by
  rcases List.mem_append.1 hu with hu | hu
  ·exact text_right s us hu
  ·simp at hu
   subst hu
   have h0:=text_right s ws hw
   refine ⟨fun e=>by have:=congrArg List.length e;rw [List.length_set,List.length_nil] at this;omega,fun y hy=>?_⟩
   rcases List.mem_or_eq_of_mem_set hy with h | h
   ·exact h0.2 y h
   ·rw [h];decide
 subst hX
 rw [joinL_text,e]
 exact ⟨by rw [parse_text hrt (by omega)];exact lines_twice hr hw,by rw [mkB_size,textW_length];omega⟩
end Go.Proofs.YthcpglnmhimepaaGreatDoor.Cs
end
section
namespace Go.Proofs.YthcpglnmhimepaaGreatDoor.Cs
open Go.RowKit Go.Maps Go.Proofs.YthcpglnmhimepaaGreatDoor.Un Go.Proofs.YthcpglnmhimepaaGreatDoor.Pk
structure TwiceAt (B:Nat) (w0 wx:World) (g:Nat) (v:Value):Prop where
 cell:wx.cell? ⟨g,0,none⟩=some v
 tab:TabV wx v []
 bel:Below B w0 wx
theorem twice_row {W:World} {B:Nat} {u:Value} {ws:List ByteArray} {nw:Nat} (hn:ws.length=nw) (h:W.ownsRow B 9 1 u nw ((ws.set (ws.length - 1) t79).map Value.string)):W.ownsRow B 9 1 u (ws.set (ws.length - 1) t79).length ((ws.set (ws.length - 1) t79).map Value.string):=by
 rw [show (ws.set (ws.length - 1) t79).length=nw by rw [List.length_set];exact hn]
 exact h
theorem texts_one (ws:List ByteArray):∀ v∈ws.map Value.string,v.oneCell'=true:=fun v hv=>by
 obtain ⟨x,_,rfl⟩:=List.mem_map.1 hv
 rfl
set_option maxRecDepth 100000 in
set_option maxHeartbeats 16000000 in
theorem courseTwice_walk (s0 s1:ByteArray) (av:Int) (w:World) (_hs0:s0.size≤maxLen) (_hs1:s1.size≤maxLen) (ha:InU8 av) (hU:LaidP w):Calls Tryz.prog 8 #[.string s0,.string s1,.int .u8 av] w fun en w'=>en=.returned (.bool true)∧Below w.heap.size w w':=by
 clear _hs0
 have HS1:=Lib.hid _hs1
 clear _hs1
 obtain ⟨m,rfl⟩:=Int.eq_ofNat_of_zero_le ha.1
 have hm255:m≤255:=by have:=ha.2;omega
 clear ha
 have HB0:=Lib.hid (Below.refl w.heap.size w)
 have HL0:=Lib.hid hU
 clear hU
 go_enter Tryz.func8,Tryz.ntmps8
 go_wp2_with fail
 refine (alive14_any _ HL0.out).mono ?_
 rintro en w1 ⟨rfl,hb1⟩
 have HB1:=Lib.hid (HB0.out.trans (hb1.mono HB0.out.size))
 have HL1:=Lib.hid (HL0.out.keep hb1)
 clear HB0 HL0
 clear hb1
 go_wp2_with fail
 refine (master_any s0 _ HL1.out.1 HL1.out.2.1).mono ?_
 rintro en w2 ⟨M,c,f,e,l,c',f',e',l',is,rfl,hm,hm',hb2,his⟩
 obtain ⟨pc,cc,pf,cf,pe,ce,pl,cl,rfl,rfl,rfl,rfl⟩:=shapes hm
 obtain ⟨pc',cc',pf',cf',pe',ce',pl',cl',rfl,rfl,rfl,rfl⟩:=shapes hm'
 have HM2:=Lib.hid hm
 have HM2':=Lib.hid hm'
 have HB2:=Lib.hid (HB1.out.trans (hb2.mono HB1.out.size))
 have HL2:=Lib.hid (HL1.out.keep hb2)
 clear HB1 HL1
 have HIS:=Lib.hid his
 clear hm hm' hb2 his
 go_wp2_with (first
  | (refine wpList_store_mast rfl 30 (.tmp 7) (.tmp 22) rfl w2.heap.size nil4 nil4 nil4 nil4 (.slice pc M.chart.length cc) (.slice pf M.flows.length cf) (.slice pe M.ents.length ce) (.slice pl M.lines.length cl) zeroM M 30 rfl rfl (start1 w2) ⟨rfl,rfl,rfl,rfl⟩ (by kernel_rfl) ?_;intro w3 hb3 hg3;have HX3:=Lib.hid hb3;have HG3:=Lib.hid hg3;clear hb3 hg3)
  | (refine wpList_store_mast rfl 36 (.tmp 8) (.tmp 23) rfl (w2.heap.size+1) nil4 nil4 nil4 nil4 (.slice pc' M.chart.length cc') (.slice pf' M.flows.length cf') (.slice pe' M.ents.length ce') (.slice pl' M.lines.length cl') zeroM M 36 rfl rfl (start_keep HG3.out) ⟨rfl,rfl,rfl,rfl⟩ (by kernel_rfl) ?_;intro w4 hb4 hg4;have HT4:=Lib.hid (two_of HM2.out HM2'.out HX3.out HG3.out hb4 hg4);clear hb4 hg4;have HB4:=Lib.hid (HB2.out.trans (HT4.out.bel.mono HB2.out.size));have HL4:=Lib.hid (HL2.out.keep HT4.out.bel))
  | fail)
 clear HM2 HM2' HB2 HL2 HX3 HG3
 by_cases hbig:3000 < s1.size
 ·refine (rlines_some s1 _ HS1.out).mono ?_
  rintro en w5 ⟨L0,p0,c0,n0,rfl,hb5⟩
  have HB5:=Lib.hid (HB4.out.trans (hb5.mono HB4.out.size))
  clear hb5
  cases is
  all_goals
   go_wp2
   go_ret
   exact ⟨rfl,HB5.out⟩
 refine (rlines_had s1 _ (by omega)).mono ?_
 intro en w5 hlh
 obtain ⟨v5,rfl,hh5,hb5⟩:=had_of hlh
 have HF5:=Lib.hid hb5
 have HTW:=HT4
 have HLW:=HL4
 have HLT4:=Lib.hid (show w2.heap.size < w4.heap.size from HT4.out.nine.lt)
 have HSZ4:=Lib.hid (show w.heap.size≤w4.heap.size from HB4.out.size)
 have HB5:=Lib.hid (HB4.out.trans (hb5.mono HB4.out.size))
 have HL5:=Lib.hid (HL4.out.keep hb5)
 have HT5:=Lib.hid (HT4.out.keep hb5)
 clear HB4 HL4 HT4
 clear hlh hb5
 obtain ⟨L,hL⟩:∃ L,asB (linV s1.data.toList)=L:=⟨_,rfl⟩
 have hWT:wordsT s1=L.map (·.2):=by unfold wordsT;rw [hL]
 rw [hL] at hh5
 obtain ⟨E0,hE0⟩:∃ E0,linE s1.data.toList=E0:=⟨_,rfl⟩
 rw [hE0]
 obtain ⟨p5,cap5,rfl⟩:=hh5.len
 have HH5:=Lib.hid hh5
 have HWT:=Lib.hid hWT
 have hNL:L.length≤3001:=by
  have h1:=text_size s1
  have h2:=szL_count (wordsT s1)
  rw [hWT] at h1 h2
  rw [List.length_map] at h2
  omega
 obtain ⟨N,hN⟩:∃ N,L.length=N:=⟨_,rfl⟩
 have HN:=Lib.hid hN
 rw [hN] at HH5 hNL ⊢
 clear hL hWT hh5 hN
 cases is with
 | false =>
   go_wp2
   go_ret
   exact ⟨rfl,HB5.out⟩
 | true =>
 by_cases hE:E0=0
 rotate_left
 ·have h1:(E0 != 0)=true:=by simpa using hE
  clear hE hE0
  go_wp2
  go_ret
  exact ⟨rfl,HB5.out⟩
 subst hE
 by_cases h0:N=0
 ·subst h0
  go_wp2
  go_ret
  exact ⟨rfl,HB5.out⟩
 have hn0:((N:Int)==0)=false:=by simp;omega
 have ho:=mast_ok (HIS.out (by first | trivial | rfl)).1
 have HO:=Lib.hid ho
 clear ho
 have hs1:s1.size≤3000:=by omega
 have HTO:=Lib.hid (tab_ok M s1 (by omega))
 have HPG:=Lib.hid (fun (X:ByteArray) (hX:X.size≤29000) W h hL=>pparse_ok (c:=(.slice pc M.chart.length cc)) (f:=(.slice pf M.flows.length cf)) (e:=(.slice pe M.ents.length ce)) (l:=(.slice pl M.lines.length cl)) X W h HO.out hX hL)
 have HPP:=Lib.hid (fun W h hL=>pparse_ok (c:=(.slice pc M.chart.length cc)) (f:=(.slice pf M.flows.length cf)) (e:=(.slice pe M.ents.length ce)) (l:=(.slice pl M.lines.length cl)) s1 W h HO.out (by omega) hL)
 have hpw:=parse_ways M s1
 obtain ⟨P,hP⟩:∃ P,parseC M s1=P:=⟨_,rfl⟩
 simp only [hP] at HPP HTO hpw
 obtain ⟨T,E⟩:=P
 dsimp only at HTO hpw
 clear hP HIS HS1 hE0
 obtain ⟨n0,n1,n2,n3,n4,n5,n6,n7,n8⟩:=HT5.out.nine
 go_wp2_with fail
 clear n0 n1 n2 n3 n4 n5 n6 n7 n8
 refine (HPP.out _ HT5.out.mast HL5.out).mono ?_
 rintro en w6 ⟨v6,rfl,hv6,hb6⟩
 dsimp only at hv6 ⊢
 obtain ⟨p6,c6,rfl⟩:=tab_slice hv6
 obtain ⟨l6,hl6⟩:∃ l,T.length=l:=⟨_,rfl⟩
 rw [hl6] at hv6 ⊢
 have hc6:=hb6.alloc hb6.size (.cells #[.slice p6 l6 c6] 41)
 have hx6:=(Below.refl w6.heap.size w6).alloc (Nat.le_refl _) (.cells #[.slice p6 l6 c6] 41)
 have hk6:=tab_box w6 (.slice p6 l6 c6)
 have hv6':=tab_keep hv6 hx6
 obtain ⟨W6,hW6⟩:∃ W5,w6.alloc (.cells #[.slice p6 l6 c6] 41)=W5:=⟨_,rfl⟩
 rw [hW6] at hc6 hk6 hv6'
 have HV6:=Lib.hid hv6'
 have HK6:=Lib.hid hk6
 have HB6:=Lib.hid (HB5.out.trans (hc6.mono HB5.out.size))
 have HL6:=Lib.hid (HL5.out.keep hc6)
 have HT6:=Lib.hid (HT5.out.keep hc6)
 have HF6:=Lib.hid (HF5.out.trans (hc6.mono HF5.out.size))
 have HH6:=Lib.hid (HH5.out.below hc6)
 clear HB5 HL5 HT5 HH5 HF5
 clear hl6 hv6 hv6' hb6 hc6 hx6 hk6 HPP
 rcases hpw with ⟨T',hrun,_,hTE⟩ | ⟨_,hEn⟩
 rotate_left
 ·have h1:(E != 0)=true:=by simpa using hEn
  clear hEn
  go_wp2
  go_ret
  exact ⟨rfl,HB6.out⟩
 obtain ⟨rfl,rfl⟩:=Prod.mk.injEq .. ▸ hTE
 clear hTE
 have HRUN:=Lib.hid hrun
 clear hrun
 obtain ⟨q,hq⟩:∃ q,m % N=q:=⟨_,rfl⟩
 have hqN:q < N:=by rw [←hq];exact Nat.mod_lt _ (by omega)
 have hrem:((m:Nat):Int).tmod ((N:Nat):Int)=((q:Nat):Int):=by
  rw [Int.tmod_eq_emod_of_nonneg (by omega),←Int.natCast_emod,hq]
 obtain ⟨⟨num,ws⟩,hx⟩:∃ x,L[q]?=some x:=⟨_,List.getElem?_eq_getElem (by rw [HN.out];exact hqN)⟩
 obtain ⟨g,cap,u,e4,hcap,hcm,c0,c1,hu⟩:=HH6.out.at hx
 rw [HN.out] at e4 hcap
 cases e4
 dsimp only at c0 c1 hu
 have HMW:Hid (ws∈wordsT s1):=Lib.hid (by rw [HWT.out];exact List.mem_map.2 ⟨_,List.mem_of_getElem? hx,rfl⟩)
 obtain ⟨hl3,hl4,hwz⟩:=line_few ((run_zero_of HRUN.out).good ws HMW.out)
 have HWZ:=Lib.hid hwz
 obtain ⟨gu,nwc,rfl,hcu⟩:∃ gu cu,u=.slice (some ⟨gu,0,none⟩) ws.length cu∧cu≤maxLen:=by
  rcases hu.2 with ⟨_,e0⟩ | ⟨gu,cu,cur,e,_,_,_,h4,_⟩
  ·omega
  ·exact ⟨gu,cu,e,h4⟩
 have HU:=Lib.hid hu
 obtain ⟨nw,hnw⟩:∃ nw,ws.length=nw:=⟨_,rfl⟩
 have HNW:=Lib.hid hnw
 rw [hnw] at c1 hu HU hl3 hl4
 unfold maxLen at hcm hcu
 obtain ⟨i0,hi,hz0,hz1,hz2⟩:=info_parts info_text
 have HI:=Lib.hid (And.intro hi (And.intro hz0 (And.intro hz1 hz2)))
 have HCELL:Hid (∀ (j:Nat) v,(ws.map Value.string)[j]?=some v→W6.cell? ((⟨gu,0,none⟩:Addr).add j)=some v):=Lib.hid (fun j v hj=>hu.cells (g:=gu) rfl j v hj)
 clear hx hq hu hwz hi hz0 hz1 hz2
 go_wp2_with (at_builtin;refine wpList_append_own _ rfl _ _ 66 rfl W6.heap.size 9 i0 (.string ⟨#[]⟩) 1 16 Tryz.underlying66 HI.out.1 HI.out.2.1 HI.out.2.2.1 HI.out.2.2.2 rfl (by decide) _ _ _ rfl (World.ownsRow_nil _ _ _ _) ⟨gu,0,none⟩ nw nwc (ws.map Value.string) rfl ?qc1 ?qc2 ?qc3 ?qc4 ?qc5 ?qc6 ?_)
 case qc1=>rw [List.length_map,HNW.out];omega
 case qc2=>exact HCELL.out
 case qc3=>exact texts_one ws
 case qc4=>unfold maxLen;omega
 case qc5=>omega
 case qc6=>exact Nat.le_refl _
 intro v7 w7 hown hgrow hnil
 have hown':w7.ownsRow W6.heap.size 9 1 v7 nw (ws.map Value.string):=by simpa using hown
 have hb7:Below W6.heap.size W6 w7:=(Below.refl _ W6).grown hgrow (Nat.le_refl _) (by intro k hk;simp [Value.ownBlock] at hk)
 obtain ⟨gx,cx,rfl⟩:∃ gx cx,v7=.slice (some ⟨gx,0,none⟩) nw cx:=by
  rcases hown'.2 with ⟨_,e0⟩ | ⟨gx,cx,cur,e,_⟩
  ·omega
  ·exact ⟨gx,cx,e⟩
 have hgx:W6.heap.size≤gx:=(hown'.lt gx rfl).1
 obtain ⟨hst,hgs⟩:=World.ownsRow.stored hown' (nw - 1) (.string t79)
 have hset:(ws.map Value.string).set (nw - 1) (.string t79)=(ws.set (ws.length - 1) t79).map Value.string:=by rw [List.map_set,HNW.out]
 rw [hset] at hst
 have hb8:Below W6.heap.size W6 (w7.setCell ⟨gx,nw - 1,none⟩ (.string t79)):=hb7.setCell (p:=⟨gx,nw - 1,none⟩) hgx _
 have hcl:=hown'.cells (g:=gx) rfl (nw - 1)
 obtain ⟨y0,hy0⟩:∃ y,(ws.map Value.string)[nw - 1]?=some y:=⟨_,List.getElem?_eq_getElem (by rw [List.length_map,HNW.out];omega)⟩
 have fc:=hcl y0 hy0
 rw [add_off,Nat.zero_add] at fc
 have fz:w7.frozen? ⟨gx,nw - 1,none⟩=false:=by
  rcases hown'.2 with ⟨_,e0⟩ | ⟨gx',cx',cur,e,_,hh,_⟩
  ·omega
  ·cases e
   simp [World.frozen?,hh]
 have HBX:=Lib.hid hb8
 have HS6:Hid (w4.heap.size≤W6.heap.size):=Lib.hid HF6.out.size
 have HX8:=Lib.hid hst
 have hwn:IntKind.i64.wrap ((nw:Int) - 1)=((nw - 1:Nat):Int):=by rw [IntKind.wrap_i64];omega
 have HY:Hid (∃ s:ByteArray,y0=.string s):=Lib.hid (by
  rw [List.getElem?_map] at hy0
  cases h:ws[nw - 1]? with
  | none=>rw [h] at hy0;cases hy0
  | some z=>rw [h] at hy0;cases hy0;exact ⟨z,rfl⟩)
 obtain ⟨yz,rfl⟩:=HY.out
 have hcx:nw≤cx∧cx≤maxLen:=by
  rcases hown'.2 with ⟨_,e0⟩ | ⟨gx',cx',cur,e,_,_,h3,h4,_⟩
  ·omega
  ·cases e;exact ⟨h3,h4⟩
 obtain ⟨hcx1,hcx2⟩:=hcx
 unfold maxLen at hcx2
 clear hown hown' hgrow hnil hb7 hst hset hb8 hcl hy0 hgs HY
 obtain ⟨w8,hw8⟩:∃ w8,w7.setCell ⟨gx,nw - 1,none⟩ (.string t79)=w8:=⟨_,rfl⟩
 rw [hw8] at HBX HX8
 have ht79:(t79:ByteArray)=⟨#[55,47,57]⟩:=rfl
 rw [ht79] at hw8
 go_upto_region 12 with (fail)
 clear hw8 fc fz c0 c1
 have HBW8:=Lib.hid (HB6.out.trans (HBX.out.mono HB6.out.size))
 have HL8:=Lib.hid (HL6.out.keep HBX.out)
 have HT8:=Lib.hid (HT6.out.keep HBX.out)
 have HF8:=Lib.hid (HF6.out.trans (HBX.out.mono HF6.out.size))
 have HV8:=Lib.hid (tab_keep HV6.out HBX.out)
 have HK8:=Lib.hid ((HBX.out.cell (World.block_lt_of_cell? _ _ HK6.out)).trans HK6.out)
 have HH8:=Lib.hid (HH6.out.below HBX.out)
 clear HB6 HL6 HT6 HH6 HF6 HV6 HK6
 obtain ⟨X,hX⟩:∃ X,mkB (joinL (L++[(0,ws.set (ws.length - 1) t79)]))=X:=⟨_,rfl⟩
 obtain ⟨hPX,hXz⟩:=twice_back HRUN.out (by omega:s1.size≤4000) HWT.out HMW.out hX
 have HX:=Lib.hid hX
 have HPX:=Lib.hid (HPG.out X hXz)
 simp only [hPX] at HPX
 have HPR:=Lib.hid (fun W (v:Value) hV hL=>pprint_ok (v:=v) (M:=M) (L:=[]) W hV (TabOk.nil M) hL)
 rw [print_nil] at HPR
 have HFW:Hid (∀ x∈L++[((0:Int),ws.set (ws.length - 1) t79)],x.2.length≤60∧∀ y∈x.2,y.size≤100):=Lib.hid (fun x hx=>by
  rcases List.mem_append.1 hx with h | h
  ·exact back_few HRUN.out HWT.out (.refl L) x h
  ·simp at h
   subst h
   refine ⟨by rw [List.length_set,HNW.out];omega,fun y hy=>?_⟩
   rcases List.mem_or_eq_of_mem_set hy with h | h
   ·exact HWZ.out y h
   ·rw [h];decide)
 clear hX hPX hXz HPG
 go_cut [15,16] (fun s15 s16 wx=>∃ (gt:Nat) (vt:Value),s15=.pointer (some ⟨gt,0,none⟩)∧s16=.int .i64 7∧TwiceAt w4.heap.size w8 wx gt vt)
 case first =>
  obtain ⟨n0,n1,n2,n3,n4,n5,n6,n7,n8⟩:=HT8.out.nine
  have r0:=fun p:Since w4.heap.size w8=>cell_since n0 HLT4.out p
  have r1:=fun p:Since w4.heap.size w8=>cell_since n1 HLT4.out p
  have r2:=fun p:Since w4.heap.size w8=>cell_since n2 HLT4.out p
  have r3:=fun p:Since w4.heap.size w8=>cell_since n3 HLT4.out p
  have r4:=fun p:Since w4.heap.size w8=>cell_since n4 HLT4.out p
  have r5:=fun p:Since w4.heap.size w8=>cell_since n5 HLT4.out p
  have r6:=fun p:Since w4.heap.size w8=>cell_since n6 HLT4.out p
  have r7:=fun p:Since w4.heap.size w8=>cell_since n7 HLT4.out p
  have r8:=fun p:Since w4.heap.size w8=>cell_since n8 HLT4.out p
  clear n0 n1 n2 n3 n4 n5 n6 n7 n8
  refine wp_region_since w4.heap.size (.two [0,1,2,3] 4 (.two [] 5 (.two [] 6 (.two [] 7 (.one [8,9,10] 11 (.one [] 12 (.last [13]))) 11 (.one [] 7 (.one [8,9,10] 12 (.last [13])))) 11 (.one [] 6 (.one [] 7 (.one [8,9,10] 12 (.last [13]))))) 11 (.one [] 5 (.one [] 6 (.one [] 7 (.one [8,9,10] 12 (.last [13])))))) 11 (.one [] 4 (.one [] 5 (.one [] 6 (.one [] 7 (.one [8,9,10] 12 (.last [13]))))))) (by kernel_rfl) (by kernel_rfl) (fun d _ _ _ _ h=>by cases d <;> exact h) ?_
  obtain ⟨wz,hwz⟩:∃ wz,w8.drew=wz:=⟨_,rfl⟩
  rw [hwz]
  have HQ0:=Lib.hid (show Below w8.heap.size w8 wz by rw [←hwz];exact ⟨rfl,rfl,rfl,Nat.le_refl _,fun _ _=>rfl⟩)
  have HSW:=Lib.hid (show w4.heap.size≤w8.heap.size from HF8.out.size)
  have HD0:=Lib.hid (HQ0.out.mono HSW.out)
  clear hwz
  simp only [wpPlan,pick,nth]
  repeat (go_big_quiet_step (fail))
  refine wpQuiet_nil ?_
  refine ⟨?_,?_⟩
  ·intro K hK
   refine alone_want (by kernel_rfl) ?_
   have hb21:=(Below.refl wz.heap.size wz).alloc (Nat.le_refl _) (.cells #[.int .i64 0,.slice (some ⟨gx,0,none⟩) nw cx] 68)
   have hq21:=line_new wz (.slice (some ⟨gx,0,none⟩) nw cx) 68
   obtain ⟨x21,hy21⟩:∃ y,wz.alloc (.cells #[.int .i64 0,.slice (some ⟨gx,0,none⟩) nw cx] 68)=y:=⟨_,rfl⟩
   rw [hy21] at hb21 hq21
   go_big_op
   have HQ21:=Lib.hid (HQ0.out.trans (hb21.mono HQ0.out.size))
   have HD21:=Lib.hid (HD0.out.trans (hb21.mono (Nat.le_trans HSW.out HQ0.out.size)))
   have HCN21:=Lib.hid hq21
   refine hK _ x21 (since_in HD21.out) ?_
   clear hK K hb21 hq21 hy21
   refine wpQuiet_nil ?_
   refine ⟨?_,?_⟩
   ·intro K hK
    refine alone_want (by kernel_rfl) ?_
    refine wp_append_part _ _ rfl w4.heap.size w4.heap.size (.slice (some ⟨g,0,none⟩) N cap5) L [((0:Int),ws.set (ws.length - 1) t79)] ⟨wz.heap.size,0,none⟩ 1 1 rfl (HH8.out.below HQ21.out) rfl rfl (part_one HCN21.out.1 HCN21.out.2 ((twice_row HNW.out (row_base (row_below HX8.out HQ21.out) HS6.out)))) (Nat.le_trans HSW.out HQ21.out.size) (by rw [HN.out];omega) ?_
    intro y22 x22 hh22 hb22 hg22
    have HR22:=Lib.hid hh22
    have HD22:=Lib.hid (HD21.out.trans hb22)
    have HS22:Hid (w8.heap.size≤x22.heap.size):=Lib.hid (Nat.le_trans HQ21.out.size hb22.size)
    refine hK _ _ (since_in HD22.out) ?_
    clear hK K hh22 hb22 hg22
    simp only [Act.put,List.setIfInBounds_toArray,List.set_cons_zero,List.set_cons_succ]
    refine wpQuiet_nil ?_
    refine ⟨?_,?_⟩
    ·intro K hK
     refine alone_want (by kernel_rfl) ?_
     go_big_op
     have hj23:=rjoin_at y22 (L++[((0:Int),ws.set (ws.length - 1) t79)]) x22 HR22.out.lines (by rw [List.length_append,HN.out];simp;omega) HFW.out
     rw [HX.out] at hj23
     refine hj23.mono ?_
     rintro en x23 ⟨rfl,rfl⟩
     refine hK _ _ (since_in HD22.out) ?_
     clear hK K hj23
     refine wpQuiet_nil ?_
     refine ⟨?_,?_⟩
     ·intro K hK
      refine alone_want (by kernel_rfl) ?_
      go_big_op
      refine (HPX.out x22 (HTW.out.mast.keep (HF8.out.trans HD22.out)) (HLW.out.keep (HF8.out.trans HD22.out))).mono ?_
      rintro en x24 ⟨z24,rfl,hz24,hb24⟩
      dsimp only at hz24 ⊢
      have HS24:=Lib.hid (Nat.le_trans HS22.out hb24.size)
      have HD24:=Lib.hid (HD22.out.trans (hb24.mono (Nat.le_trans HSW.out HS22.out)))
      have HZN24:=Lib.hid hz24
      obtain ⟨zp24,zc24,rfl⟩:=tab_slice hz24
      obtain ⟨zl24,hzl24⟩:∃ l,([]:List Crs).length=l:=⟨_,rfl⟩
      rw [hzl24] at hz24 HZN24 ⊢
      refine hK _ _ (since_in HD24.out) ?_
      clear hK K hz24 hb24 hzl24
      repeat (go_big_quiet_step (fail))
      refine wpQuiet_nil ?_
      intro K hK
      refine alone_want (by kernel_rfl) ?_
      have hb25:=(Below.refl x24.heap.size x24).alloc (Nat.le_refl _) (.cells #[.slice none 0 0] 41)
      have hq25:=heap_alloc_new x24 (.cells #[.slice none 0 0] 41)
      obtain ⟨x25,hy25⟩:∃ y,x24.alloc (.cells #[.slice none 0 0] 41)=y:=⟨_,rfl⟩
      rw [hy25] at hb25 hq25
      go_big_op
      have HE25:=Lib.hid (show w4.heap.size≤x24.heap.size from (Nat.le_trans HSW.out HS24.out))
      have HS25:=Lib.hid (Nat.le_trans HS24.out hb25.size)
      have HD25:=Lib.hid (HD24.out.trans (hb25.mono (Nat.le_trans HSW.out HS24.out)))
      have HZ25:=Lib.hid (tab_keep HZN24.out hb25)
      have HJN25:=Lib.hid hq25
      refine hK _ x25 (since_in HD25.out) ?_
      clear hK K hb25 hq25 hy25
      refine wpQuiet_nil ?_
      intro K hK
      refine alone_want (by kernel_rfl) ?_
      obtain ⟨fz26,fc26⟩:=one_free HJN25.out
      go_big_op
      have HF26:Hid (TwiceAt w4.heap.size w8 (x25.setCell ⟨x24.heap.size,0,none⟩ (.slice zp24 zl24 zc24)) x24.heap.size (.slice zp24 zl24 zc24)):=Lib.hid ⟨one_set HJN25.out,tab_off HJN25.out HZ25.out,HD25.out.setCell (p:=⟨x24.heap.size,0,none⟩) HE25.out _⟩
      refine hK _ _ (since_in HF26.out.bel) ?_
      clear hK K fz26 fc26
      repeat (go_big_quiet_step (fail))
      refine wpQuiet_nil ?_
      go_wp2_with fail
      go_meet
      case rel=>exact ⟨_,_,rfl,rfl,HF26.out⟩
     ·intro K hK
      refine alone_want (by kernel_rfl) ?_
      have hb24:=(Below.refl x22.heap.size x22).alloc (Nat.le_refl _) (.cells #[.slice none 0 0] 41)
      have hq24:=heap_alloc_new x22 (.cells #[.slice none 0 0] 41)
      obtain ⟨x24,hy24⟩:∃ y,x22.alloc (.cells #[.slice none 0 0] 41)=y:=⟨_,rfl⟩
      rw [hy24] at hb24 hq24
      go_big_op
      have HE24:=Lib.hid (show w4.heap.size≤x22.heap.size from (Nat.le_trans HSW.out HS22.out))
      have HS24:=Lib.hid (Nat.le_trans HS22.out hb24.size)
      have HD24:=Lib.hid (HD22.out.trans (hb24.mono (Nat.le_trans HSW.out HS22.out)))
      have HJN24:=Lib.hid hq24
      refine hK _ x24 (since_in HD24.out) ?_
      clear hK K hb24 hq24 hy24
      refine wpQuiet_nil ?_
      intro K hK
      refine alone_want (by kernel_rfl) ?_
      go_big_op
      refine (HPX.out x24 (HTW.out.mast.keep (HF8.out.trans HD24.out)) (HLW.out.keep (HF8.out.trans HD24.out))).mono ?_
      rintro en x25 ⟨z25,rfl,hz25,hb25⟩
      dsimp only at hz25 ⊢
      have HS25:=Lib.hid (Nat.le_trans HS24.out hb25.size)
      have HD25:=Lib.hid (HD24.out.trans (hb25.mono (Nat.le_trans HSW.out HS24.out)))
      have HJ25:=Lib.hid ((hb25.block _ (Array.getElem?_eq_some_iff.1 HJN24.out).1).trans HJN24.out)
      have HZN25:=Lib.hid hz25
      obtain ⟨zp25,zc25,rfl⟩:=tab_slice hz25
      obtain ⟨zl25,hzl25⟩:∃ l,([]:List Crs).length=l:=⟨_,rfl⟩
      rw [hzl25] at hz25 HZN25 ⊢
      refine hK _ _ (since_in HD25.out) ?_
      clear hK K hz25 hb25 hzl25
      repeat (go_big_quiet_step (fail))
      refine wpQuiet_nil ?_
      intro K hK
      refine alone_want (by kernel_rfl) ?_
      obtain ⟨fz26,fc26⟩:=one_free HJ25.out
      go_big_op
      have HF26:Hid (TwiceAt w4.heap.size w8 (x25.setCell ⟨x22.heap.size,0,none⟩ (.slice zp25 zl25 zc25)) x22.heap.size (.slice zp25 zl25 zc25)):=Lib.hid ⟨one_set HJ25.out,tab_off HJ25.out HZN25.out,HD25.out.setCell (p:=⟨x22.heap.size,0,none⟩) HE24.out _⟩
      refine hK _ _ (since_in HF26.out.bel) ?_
      clear hK K fz26 fc26
      repeat (go_big_quiet_step (fail))
      refine wpQuiet_nil ?_
      go_wp2_with fail
      go_meet
      case rel=>exact ⟨_,_,rfl,rfl,HF26.out⟩
    ·intro K hK
     refine alone_want (by kernel_rfl) ?_
     have hb23:=(Below.refl x22.heap.size x22).alloc (Nat.le_refl _) (.cells #[.slice none 0 0] 41)
     have hq23:=heap_alloc_new x22 (.cells #[.slice none 0 0] 41)
     obtain ⟨x23,hy23⟩:∃ y,x22.alloc (.cells #[.slice none 0 0] 41)=y:=⟨_,rfl⟩
     rw [hy23] at hb23 hq23
     go_big_op
     have HE23:=Lib.hid (show w4.heap.size≤x22.heap.size from (Nat.le_trans HSW.out HS22.out))
     have HS23:=Lib.hid (Nat.le_trans HS22.out hb23.size)
     have HD23:=Lib.hid (HD22.out.trans (hb23.mono (Nat.le_trans HSW.out HS22.out)))
     have HR23:=Lib.hid (HR22.out.below hb23)
     have HJN23:=Lib.hid hq23
     refine hK _ x23 (since_in HD23.out) ?_
     clear hK K hb23 hq23 hy23
     refine wpQuiet_nil ?_
     intro K hK
     refine alone_want (by kernel_rfl) ?_
     go_big_op
     have hj24:=rjoin_at y22 (L++[((0:Int),ws.set (ws.length - 1) t79)]) x23 HR23.out.lines (by rw [List.length_append,HN.out];simp;omega) HFW.out
     rw [HX.out] at hj24
     refine hj24.mono ?_
     rintro en x24 ⟨rfl,rfl⟩
     refine hK _ _ (since_in HD23.out) ?_
     clear hK K hj24
     refine wpQuiet_nil ?_
     intro K hK
     refine alone_want (by kernel_rfl) ?_
     go_big_op
     refine (HPX.out x23 (HTW.out.mast.keep (HF8.out.trans HD23.out)) (HLW.out.keep (HF8.out.trans HD23.out))).mono ?_
     rintro en x25 ⟨z25,rfl,hz25,hb25⟩
     dsimp only at hz25 ⊢
     have HS25:=Lib.hid (Nat.le_trans HS23.out hb25.size)
     have HD25:=Lib.hid (HD23.out.trans (hb25.mono (Nat.le_trans HSW.out HS23.out)))
     have HJ25:=Lib.hid ((hb25.block _ (Array.getElem?_eq_some_iff.1 HJN23.out).1).trans HJN23.out)
     have HZN25:=Lib.hid hz25
     obtain ⟨zp25,zc25,rfl⟩:=tab_slice hz25
     obtain ⟨zl25,hzl25⟩:∃ l,([]:List Crs).length=l:=⟨_,rfl⟩
     rw [hzl25] at hz25 HZN25 ⊢
     refine hK _ _ (since_in HD25.out) ?_
     clear hK K hz25 hb25 hzl25
     repeat (go_big_quiet_step (fail))
     refine wpQuiet_nil ?_
     intro K hK
     refine alone_want (by kernel_rfl) ?_
     obtain ⟨fz26,fc26⟩:=one_free HJ25.out
     go_big_op
     have HF26:Hid (TwiceAt w4.heap.size w8 (x25.setCell ⟨x22.heap.size,0,none⟩ (.slice zp25 zl25 zc25)) x22.heap.size (.slice zp25 zl25 zc25)):=Lib.hid ⟨one_set HJ25.out,tab_off HJ25.out HZN25.out,HD25.out.setCell (p:=⟨x22.heap.size,0,none⟩) HE23.out _⟩
     refine hK _ _ (since_in HF26.out.bel) ?_
     clear hK K fz26 fc26
     repeat (go_big_quiet_step (fail))
     refine wpQuiet_nil ?_
     go_wp2_with fail
     go_meet
     case rel=>exact ⟨_,_,rfl,rfl,HF26.out⟩
   ·intro K hK
    refine alone_want (by kernel_rfl) ?_
    have hb22:=(Below.refl x21.heap.size x21).alloc (Nat.le_refl _) (.cells #[.slice none 0 0] 41)
    have hq22:=heap_alloc_new x21 (.cells #[.slice none 0 0] 41)
    obtain ⟨x22,hy22⟩:∃ y,x21.alloc (.cells #[.slice none 0 0] 41)=y:=⟨_,rfl⟩
    rw [hy22] at hb22 hq22
    go_big_op
    have HE22:=Lib.hid (show w4.heap.size≤x21.heap.size from (Nat.le_trans HSW.out HQ21.out.size))
    have HQ22:=Lib.hid (HQ21.out.trans (hb22.mono HQ21.out.size))
    have HD22:=Lib.hid (HD21.out.trans (hb22.mono (Nat.le_trans HSW.out HQ21.out.size)))
    have HC22:=Lib.hid (And.intro ((hb22.cell (World.block_lt_of_cell? _ _ HCN21.out.1)).trans HCN21.out.1) ((hb22.cell (World.block_lt_of_cell? _ _ HCN21.out.2)).trans HCN21.out.2))
    have HJN22:=Lib.hid hq22
    refine hK _ x22 (since_in HD22.out) ?_
    clear hK K hb22 hq22 hy22
    refine wpQuiet_nil ?_
    intro K hK
    refine alone_want (by kernel_rfl) ?_
    refine wp_append_part _ _ rfl w4.heap.size w4.heap.size (.slice (some ⟨g,0,none⟩) N cap5) L [((0:Int),ws.set (ws.length - 1) t79)] ⟨wz.heap.size,0,none⟩ 1 1 rfl (HH8.out.below HQ22.out) rfl rfl (part_one HC22.out.1 HC22.out.2 ((twice_row HNW.out (row_base (row_below HX8.out HQ22.out) HS6.out)))) (Nat.le_trans HSW.out HQ22.out.size) (by rw [HN.out];omega) ?_
    intro y23 x23 hh23 hb23 hg23
    have HR23:=Lib.hid hh23
    have HD23:=Lib.hid (HD22.out.trans hb23)
    have HS23:Hid (w8.heap.size≤x23.heap.size):=Lib.hid (Nat.le_trans HQ22.out.size hb23.size)
    have HJ23:=Lib.hid ((hg23.block _ (Array.getElem?_eq_some_iff.1 HJN22.out).1 (had_ne (HH8.out.below HQ22.out) HJN22.out (by decide))).trans HJN22.out)
    refine hK _ _ (since_in HD23.out) ?_
    clear hK K hh23 hb23 hg23
    simp only [Act.put,List.setIfInBounds_toArray,List.set_cons_zero,List.set_cons_succ]
    refine wpQuiet_nil ?_
    intro K hK
    refine alone_want (by kernel_rfl) ?_
    go_big_op
    have hj24:=rjoin_at y23 (L++[((0:Int),ws.set (ws.length - 1) t79)]) x23 HR23.out.lines (by rw [List.length_append,HN.out];simp;omega) HFW.out
    rw [HX.out] at hj24
    refine hj24.mono ?_
    rintro en x24 ⟨rfl,rfl⟩
    refine hK _ _ (since_in HD23.out) ?_
    clear hK K hj24
    refine wpQuiet_nil ?_
    intro K hK
    refine alone_want (by kernel_rfl) ?_
    go_big_op
    refine (HPX.out x23 (HTW.out.mast.keep (HF8.out.trans HD23.out)) (HLW.out.keep (HF8.out.trans HD23.out))).mono ?_
    rintro en x25 ⟨z25,rfl,hz25,hb25⟩
    dsimp only at hz25 ⊢
    have HS25:=Lib.hid (Nat.le_trans HS23.out hb25.size)
    have HD25:=Lib.hid (HD23.out.trans (hb25.mono (Nat.le_trans HSW.out HS23.out)))
    have HJ25:=Lib.hid ((hb25.block _ (Array.getElem?_eq_some_iff.1 HJ23.out).1).trans HJ23.out)
    have HZN25:=Lib.hid hz25
    obtain ⟨zp25,zc25,rfl⟩:=tab_slice hz25
    obtain ⟨zl25,hzl25⟩:∃ l,([]:List Crs).length=l:=⟨_,rfl⟩
    rw [hzl25] at hz25 HZN25 ⊢
    refine hK _ _ (since_in HD25.out) ?_
    clear hK K hz25 hb25 hzl25
    repeat (go_big_quiet_step (fail))
    refine wpQuiet_nil ?_
    intro K hK
    refine alone_want (by kernel_rfl) ?_
    obtain ⟨fz26,fc26⟩:=one_free HJ25.out
    go_big_op
    have HF26:Hid (TwiceAt w4.heap.size w8 (x25.setCell ⟨x21.heap.size,0,none⟩ (.slice zp25 zl25 zc25)) x21.heap.size (.slice zp25 zl25 zc25)):=Lib.hid ⟨one_set HJ25.out,tab_off HJ25.out HZN25.out,HD25.out.setCell (p:=⟨x21.heap.size,0,none⟩) HE22.out _⟩
    refine hK _ _ (since_in HF26.out.bel) ?_
    clear hK K fz26 fc26
    repeat (go_big_quiet_step (fail))
    refine wpQuiet_nil ?_
    go_wp2_with fail
    go_meet
    case rel=>exact ⟨_,_,rfl,rfl,HF26.out⟩
  ·intro K hK
   refine alone_want (by kernel_rfl) ?_
   have hb21:=(Below.refl wz.heap.size wz).alloc (Nat.le_refl _) (.cells #[.slice none 0 0] 41)
   have hq21:=heap_alloc_new wz (.cells #[.slice none 0 0] 41)
   obtain ⟨x21,hy21⟩:∃ y,wz.alloc (.cells #[.slice none 0 0] 41)=y:=⟨_,rfl⟩
   rw [hy21] at hb21 hq21
   go_big_op
   have HE21:=Lib.hid (show w4.heap.size≤wz.heap.size from (Nat.le_trans HSW.out HQ0.out.size))
   have HQ21:=Lib.hid (HQ0.out.trans (hb21.mono HQ0.out.size))
   have HD21:=Lib.hid (HD0.out.trans (hb21.mono (Nat.le_trans HSW.out HQ0.out.size)))
   have HJN21:=Lib.hid hq21
   refine hK _ x21 (since_in HD21.out) ?_
   clear hK K hb21 hq21 hy21
   refine wpQuiet_nil ?_
   intro K hK
   refine alone_want (by kernel_rfl) ?_
   have hb22:=(Below.refl x21.heap.size x21).alloc (Nat.le_refl _) (.cells #[.int .i64 0,.slice (some ⟨gx,0,none⟩) nw cx] 68)
   have hq22:=line_new x21 (.slice (some ⟨gx,0,none⟩) nw cx) 68
   obtain ⟨x22,hy22⟩:∃ y,x21.alloc (.cells #[.int .i64 0,.slice (some ⟨gx,0,none⟩) nw cx] 68)=y:=⟨_,rfl⟩
   rw [hy22] at hb22 hq22
   go_big_op
   have HQ22:=Lib.hid (HQ21.out.trans (hb22.mono HQ21.out.size))
   have HD22:=Lib.hid (HD21.out.trans (hb22.mono (Nat.le_trans HSW.out HQ21.out.size)))
   have HJ22:=Lib.hid ((hb22.block _ (Array.getElem?_eq_some_iff.1 HJN21.out).1).trans HJN21.out)
   have HCN22:=Lib.hid hq22
   refine hK _ x22 (since_in HD22.out) ?_
   clear hK K hb22 hq22 hy22
   refine wpQuiet_nil ?_
   intro K hK
   refine alone_want (by kernel_rfl) ?_
   refine wp_append_part _ _ rfl w4.heap.size w4.heap.size (.slice (some ⟨g,0,none⟩) N cap5) L [((0:Int),ws.set (ws.length - 1) t79)] ⟨x21.heap.size,0,none⟩ 1 1 rfl (HH8.out.below HQ22.out) rfl rfl (part_one HCN22.out.1 HCN22.out.2 ((twice_row HNW.out (row_base (row_below HX8.out HQ22.out) HS6.out)))) (Nat.le_trans HSW.out HQ22.out.size) (by rw [HN.out];omega) ?_
   intro y23 x23 hh23 hb23 hg23
   have HR23:=Lib.hid hh23
   have HD23:=Lib.hid (HD22.out.trans hb23)
   have HS23:Hid (w8.heap.size≤x23.heap.size):=Lib.hid (Nat.le_trans HQ22.out.size hb23.size)
   have HJ23:=Lib.hid ((hg23.block _ (Array.getElem?_eq_some_iff.1 HJ22.out).1 (had_ne (HH8.out.below HQ22.out) HJ22.out (by decide))).trans HJ22.out)
   refine hK _ _ (since_in HD23.out) ?_
   clear hK K hh23 hb23 hg23
   simp only [Act.put,List.setIfInBounds_toArray,List.set_cons_zero,List.set_cons_succ]
   refine wpQuiet_nil ?_
   intro K hK
   refine alone_want (by kernel_rfl) ?_
   go_big_op
   have hj24:=rjoin_at y23 (L++[((0:Int),ws.set (ws.length - 1) t79)]) x23 HR23.out.lines (by rw [List.length_append,HN.out];simp;omega) HFW.out
   rw [HX.out] at hj24
   refine hj24.mono ?_
   rintro en x24 ⟨rfl,rfl⟩
   refine hK _ _ (since_in HD23.out) ?_
   clear hK K hj24
   refine wpQuiet_nil ?_
   intro K hK
   refine alone_want (by kernel_rfl) ?_
   go_big_op
   refine (HPX.out x23 (HTW.out.mast.keep (HF8.out.trans HD23.out)) (HLW.out.keep (HF8.out.trans HD23.out))).mono ?_
   rintro en x25 ⟨z25,rfl,hz25,hb25⟩
   dsimp only at hz25 ⊢
   have HS25:=Lib.hid (Nat.le_trans HS23.out hb25.size)
   have HD25:=Lib.hid (HD23.out.trans (hb25.mono (Nat.le_trans HSW.out HS23.out)))
   have HJ25:=Lib.hid ((hb25.block _ (Array.getElem?_eq_some_iff.1 HJ23.out).1).trans HJ23.out)
   have HZN25:=Lib.hid hz25
   obtain ⟨zp25,zc25,rfl⟩:=tab_slice hz25
   obtain ⟨zl25,hzl25⟩:∃ l,([]:List Crs).length=l:=⟨_,rfl⟩
   rw [hzl25] at hz25 HZN25 ⊢
   refine hK _ _ (since_in HD25.out) ?_
   clear hK K hz25 hb25 hzl25
   repeat (go_big_quiet_step (fail))
   refine wpQuiet_nil ?_
   intro K hK
   refine alone_want (by kernel_rfl) ?_
   obtain ⟨fz26,fc26⟩:=one_free HJ25.out
   go_big_op
   have HF26:Hid (TwiceAt w4.heap.size w8 (x25.setCell ⟨wz.heap.size,0,none⟩ (.slice zp25 zl25 zc25)) wz.heap.size (.slice zp25 zl25 zc25)):=Lib.hid ⟨one_set HJ25.out,tab_off HJ25.out HZN25.out,HD25.out.setCell (p:=⟨wz.heap.size,0,none⟩) HE21.out _⟩
   refine hK _ _ (since_in HF26.out.bel) ?_
   clear hK K fz26 fc26
   repeat (go_big_quiet_step (fail))
   refine wpQuiet_nil ?_
   go_wp2_with fail
   go_meet
   case rel=>exact ⟨_,_,rfl,rfl,HF26.out⟩
 case rest =>
  obtain ⟨gt,vt,rfl,rfl,ht⟩:=hcut
  rename World=>wx
  have HTA:=Lib.hid ht
  have k0:=ht.cell
  clear ht
  go_wp2_with fail
  clear k0
  refine (HPR.out _ _ HTA.out.tab (HLW.out.keep (HF8.out.trans HTA.out.bel))).mono ?_
  rintro en w11 ⟨rfl,hb11⟩
  have HBE:=Lib.hid ((HBW8.out.trans (HTA.out.bel.mono HSZ4.out)).trans (hb11.mono (Nat.le_trans HBW8.out.size HTA.out.bel.size)))
  clear hb11
  go_wp2
  go_ret
  exact ⟨rfl,HBE.out⟩
end Go.Proofs.YthcpglnmhimepaaGreatDoor.Cs
end
