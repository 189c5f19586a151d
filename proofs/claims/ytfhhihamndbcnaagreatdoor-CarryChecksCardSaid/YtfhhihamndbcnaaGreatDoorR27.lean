/- UnitText FlowWords FlowParse -/
import Derived.Deep.CutBlock
import Derived.Deep.DeepCutAuto
import Derived.Deep.RegionHeld3
import Derived.Test.YtfhhihamndbcnaaGreatDoorR11
import Derived.Test.YtfhhihamndbcnaaGreatDoorR17
section
namespace Go.Proofs.YtfhhihamndbcnaaGreatDoor.Un
open Go.RowKit
def szW (ws:List ByteArray):Nat:=(lineL ws).length+1
def szL (l:List (List ByteArray)):Nat:=(l.map szW).sum
def szB (ws:List (List UInt8)):Nat:=(ws.map fun x=>x.length+1).sum
theorem lineL_two (x y:ByteArray) (r:List ByteArray):lineL (x::y::r)=x.data.toList++([32]++lineL (y::r)):=by simp [lineL,Lib.join,List.intercalate]
theorem lineL_one (x:ByteArray):lineL [x]=x.data.toList:=by simp [lineL,Lib.join,List.intercalate]
theorem szW_mk:∀ (ws:List (List UInt8)),ws≠[]→szW (ws.map mkB)=szB ws
 | [],h=>absurd rfl h
 | [x],_=>by simp [szW,szB,lineL_one,mkB_data]
 | x::y::r,_=>by
   have ih:=szW_mk (y::r) (by simp)
   unfold szW at ih ⊢
   have e:szB (x::y::r)=x.length+1+szB (y::r):=by simp [szB]
   rw [e,←ih]
   simp only [List.map_cons]
   rw [lineL_two,mkB_data]
   simp only [List.length_append,List.length_cons,List.length_nil]
   omega
theorem fields_size (cur r:List UInt8):szB (fieldsGo cur r)≤cur.length+r.length+1:=by
 induction r generalizing cur with
 | nil =>
   simp only [fieldsGo]
   split
   ·simp [szB]
   ·simp [szB]
 | cons c r ih =>
   simp only [fieldsGo]
   split
   ·split
    ·have:=ih [];simp at this ⊢;omega
    ·have:=ih []
     have e:szB (cur::fieldsGo [] r)=cur.length+1+szB (fieldsGo [] r):=by simp [szB]
     rw [e];simp at this ⊢;omega
   ·have:=ih (cur++[c]);simp at this ⊢;omega
theorem words_size (l:List UInt8):szB (wordsL l)≤l.length+1:=by
 have h1:=fields_size [] (said l)
 have h2:=said_length l
 unfold wordsL
 simp at h1
 omega
theorem lines_sum (cur l:List UInt8):((linesGo cur l).map fun x=>x.length+1).sum=cur.length+l.length+1:=by
 induction l generalizing cur with
 | nil=>simp [linesGo]
 | cons c r ih =>
   simp only [linesGo]
   split
   ·have:=ih [];simp at this ⊢;omega
   ·have:=ih (cur++[c]);simp at this ⊢;omega
abbrev wordsN (L:List (Nat × List (List UInt8))):List (List ByteArray):=(asB L).map (·.2)
theorem wordsN_append (a b:List (Nat × List (List UInt8))):wordsN (a++b)=wordsN a++wordsN b:=by simp [wordsN,asB]
theorem szL_append (a b:List (List ByteArray)):szL (a++b)=szL a+szL b:=by simp [szL]
theorem num_size:∀ (n:Nat) (l:List (List UInt8)),szL (wordsN (numP (enumL n l)))≤(l.map fun x=>x.length+1).sum
 | n,[]=>by simp [enumL,numP,wordsN,asB,szL]
 | n,x::r=>by
   have ih:=num_size (n+1) r
   simp only [enumL]
   rw [numP_lineOf,wordsN_append,szL_append]
   have h1:szL (wordsN (lineOf n (wordsL x)))≤x.length+1:=by
    unfold lineOf
    split
    ·simp [wordsN,asB,szL]
    ·rename_i hne
     have:szL (wordsN [(n,wordsL x)])=szW ((wordsL x).map mkB):=by simp [wordsN,asB,szL]
     rw [this,szW_mk _ hne]
     exact words_size x
   simp only [List.map_cons,List.sum_cons]
   omega
theorem text_size (s:ByteArray):szL (wordsT s)≤s.size+1:=by
 unfold wordsT linV
 split
 ·simp [asB,szL]
 ·split
  ·have h1:=num_size 1 (linesGo [] s.data.toList)
   rw [lines_sum,size_list] at h1
   simp only [List.length_nil,Nat.zero_add] at h1
   exact h1
  ·simp [asB,szL]
def rightW (ws:List ByteArray):Prop:=ws≠[]∧∀ x∈ws,rightL x.data.toList=true
theorem fields_right (cur r:List UInt8) (hc:cur.all rwB=true) (hr:∀ c∈r,gapB c=false→rwB c=true):∀ x∈fieldsGo cur r,rightL x=true:=by
 induction r generalizing cur with
 | nil =>
   intro x hx
   simp only [fieldsGo] at hx
   split at hx
   ·cases hx
   ·rename_i hne
    simp at hx;subst hx
    unfold rightL
    rw [decide_eq_true hne,hc];rfl
 | cons c r ih =>
   intro x hx
   simp only [fieldsGo] at hx
   have hr':∀ d∈r,gapB d=false→rwB d=true:=fun d hd=>hr d (List.mem_cons_of_mem _ hd)
   split at hx
   ·split at hx
    ·exact ih [] rfl hr' x hx
    ·rename_i hne
     rcases List.mem_cons.1 hx with rfl | hx
     ·unfold rightL
      rw [decide_eq_true hne,hc];rfl
     ·exact ih [] rfl hr' x hx
   ·rename_i hg
    refine ih (cur++[c]) ?_ hr' x hx
    rw [List.all_append,hc]
    simp [hr c (List.mem_cons_self ..) (by simpa using hg)]
theorem said_no (l:List UInt8):(35:UInt8) ∉ said l:=by
 induction l with
 | nil=>simp [said]
 | cons c r ih =>
   simp only [said]
   split
   ·simp
   ·rename_i h
    simp only [List.mem_cons,not_or]
    exact ⟨fun e=>h e.symm,ih⟩
theorem said_sub (l:List UInt8):∀ c∈said l,c∈l:=by
 induction l with
 | nil=>simp [said]
 | cons c r ih =>
   intro d hd
   simp only [said] at hd
   split at hd
   ·cases hd
   ·rcases List.mem_cons.1 hd with rfl | hd
    ·exact List.mem_cons_self ..
    ·exact List.mem_cons_of_mem _ (ih d hd)
theorem okB_right {c:UInt8} (h:okB c=true) (h10:c≠10) (h35:c≠35) (hg:gapB c=false):rwB c=true:=by
 unfold okB at h
 unfold gapB at hg
 rw [Bool.or_eq_false_iff,beq_eq_false_iff_ne,beq_eq_false_iff_ne] at hg
 rw [Bool.or_eq_true,Bool.or_eq_true,beq_iff_eq,beq_iff_eq,Bool.and_eq_true,decide_eq_true_eq,decide_eq_true_eq] at h
 unfold rwB
 apply decide_eq_true
 have n35:c.toNat≠35:=fun e=>h35 (UInt8.toNat_inj.1 (by rw [e];rfl))
 have n32:c.toNat≠32:=fun e=>hg.2 (UInt8.toNat_inj.1 (by rw [e];rfl))
 rcases h with (h | h) | h
 ·exact absurd h hg.1
 ·exact absurd h h10
 ·omega
theorem linesGo_no10 (cur l:List UInt8) (hc:(10:UInt8) ∉ cur):∀ x∈linesGo cur l,(10:UInt8) ∉ x:=by
 induction l generalizing cur with
 | nil=>intro x hx;simp [linesGo] at hx;subst hx;exact hc
 | cons c r ih =>
   intro x hx
   simp only [linesGo] at hx
   split at hx
   ·rcases List.mem_cons.1 hx with rfl | hx
    ·exact hc
    ·exact ih [] (by simp) x hx
   ·rename_i h
    exact ih (cur++[c]) (by simp [hc,Ne.symm h]) x hx
theorem num_right:∀ (n:Nat) (l:List (List UInt8)),(∀ x∈l,okL x=true∧(10:UInt8) ∉ x)→∀ ws∈wordsN (numP (enumL n l)),rightW ws
 | n,[],_=>by intro ws hw;simp [enumL,numP,wordsN,asB] at hw
 | n,x::r,h=>by
   intro ws hw
   simp only [enumL] at hw
   rw [numP_lineOf,wordsN_append] at hw
   rcases List.mem_append.1 hw with hw | hw
   ·unfold lineOf at hw
    split at hw
    ·simp [wordsN,asB] at hw
    ·rename_i hne
     have e:wordsN [(n,wordsL x)]=[(wordsL x).map mkB]:=by simp [wordsN,asB]
     rw [e] at hw
     simp only [List.mem_singleton] at hw
     subst hw
     refine ⟨by simpa using hne,fun y hy=>?_⟩
     obtain ⟨z,hz,rfl⟩:=List.mem_map.1 hy
     rw [mkB_data]
     obtain ⟨h1,h2⟩:=h x (List.mem_cons_self ..)
     refine fields_right [] (said x) rfl (fun c hc hg=>?_) z hz
     have hcx:=said_sub x c hc
     exact okB_right (List.all_eq_true.1 h1 c hcx) (fun e=>h2 (e ▸ hcx)) (fun e=>said_no x (e ▸ hc)) hg
   ·exact num_right (n+1) r (fun y hy=>h y (List.mem_cons_of_mem _ hy)) ws hw
theorem text_right (s:ByteArray):∀ ws∈wordsT s,rightW ws:=by
 intro ws hw
 unfold wordsT linV at hw
 split at hw
 ·simp [asB] at hw
 ·split at hw
  ·rename_i ho
   refine num_right 1 (linesGo [] s.data.toList) (fun x hx=>⟨?_,linesGo_no10 [] _ (by simp) x hx⟩) ws hw
   exact (linesGo_all okB [] s.data.toList rfl ho x hx).1
  ·simp [asB] at hw
theorem part_words:∀ (ws:List (List UInt8)),ws≠[]→(∀ x∈ws,rightL x=true)→∀ (U:List UInt8) (vs:List (List UInt8)),GapPart U vs→PartOf (U++Lib.join ws [32]) (vs++ws)
 | [],h,_=>absurd rfl h
 | [x],_,h=>fun U vs hU=>by
   have e:Lib.join [x] [32]=x:=by simp [Lib.join,List.intercalate]
   rw [e]
   exact hU.word (h x (by simp))
 | x::y::r,_,h=>fun U vs hU=>by
   have e:Lib.join (x::y::r) [32]=x++([32]++Lib.join (y::r) [32]):=by simp [Lib.join,List.intercalate]
   rw [e]
   have h1:=hU.word (h x (by simp))
   have h2:=h1.gap (g:=[32]) (by simp) rfl (by simp)
   have h3:=part_words (y::r) (by simp) (fun z hz=>h z (List.mem_cons_of_mem _ hz)) _ _ h2
   simpa using h3
def textW (l:List (List ByteArray)):List UInt8:=l.flatMap fun ws=>lineL ws++[10]
theorem textW_length (l:List (List ByteArray)):(textW l).length=szL l:=by
 induction l with
 | nil=>rfl
 | cons ws l ih =>
   have e:textW (ws::l)=(lineL ws++[10])++textW l:=rfl
   rw [e,List.length_append,ih]
   simp [szL,szW]
theorem text_blocks (l:List (List ByteArray)) (h:∀ ws∈l,rightW ws):Blocks (textW l) (l.map fun ws=>ws.map (·.data.toList)):=by
 suffices H:∀ (l k:List (List ByteArray)),(∀ ws∈k,rightW ws)→Blocks (textW l) (l.map fun ws=>ws.map (·.data.toList))→Blocks (textW (l++k)) ((l++k).map fun ws=>ws.map (·.data.toList)) by
  simpa using H [] l h blocks_nil
 intro l k
 induction k generalizing l with
 | nil=>intro _ hb;simpa using hb
 | cons ws k ih =>
   intro hk hb
   have h1:=hk ws (List.mem_cons_self ..)
   have hne:ws.map (·.data.toList)≠[]:=by simpa using h1.1
   have hp:PartOf (lineL ws) (ws.map (·.data.toList)):=by
    have hg:GapPart [] []:=(part_start (g:=[]) rfl).gap0
    have:=part_words (ws.map (·.data.toList)) hne (fun x hx=>by
     obtain ⟨y,hy,rfl⟩:=List.mem_map.1 hx
     exact h1.2 y hy) [] [] hg
    simpa [lineL] using this
   have hs:=hb.snoc (r:=[]) (e:=[10]) hp (.inl rfl) (.inl rfl)
   rw [if_neg hne] at hs
   have e1:textW (l++[ws])=textW l++(lineL ws++[]++[10]):=by simp [textW]
   have hb':Blocks (textW (l++[ws])) ((l++[ws]).map fun ws=>ws.map (·.data.toList)):=by
    rw [e1];simpa using hs
   have:=ih (l++[ws]) (fun u hu=>hk u (List.mem_cons_of_mem _ hu)) hb'
   simpa using this
theorem text_back (l:List (List ByteArray)) (h:∀ ws∈l,rightW ws) (hs:szL l≤20000):linE (mkB (textW l)).data.toList=0∧wordsT (mkB (textW l))=l:=by
 have hb:=text_blocks l h
 obtain ⟨m,hm,_⟩:=hb.lines
 have hlen:¬ 20000 < (textW l).length:=by rw [textW_length];omega
 have e1:linE (textW l)=0:=by unfold linE;rw [if_neg hlen,if_pos hb.1]
 have e2:linV (textW l)=linesL (textW l):=by unfold linV;rw [if_neg hlen,if_pos hb.1]
 rw [mkB_data]
 refine ⟨e1,?_⟩
 unfold wordsT
 rw [mkB_data,e2]
 unfold asB
 rw [List.map_map]
 have e3:(fun x:Int × List ByteArray=>x.2) ∘ (fun x:Nat × List (List UInt8)=>((x.1:Int),x.2.map mkB))=(fun x:List (List UInt8)=>x.map mkB) ∘ (fun x:Nat × List (List UInt8)=>x.2):=rfl
 rw [e3,←List.map_map,hm,List.map_map]
 conv=>rhs;rw [←List.map_id l]
 refine List.map_congr_left fun ws _=>?_
 simp only [Function.comp,id,List.map_map]
 conv=>rhs;rw [←List.map_id ws]
 refine List.map_congr_left fun x _=>?_
 exact mkB_list x
end Go.Proofs.YtfhhihamndbcnaaGreatDoor.Un
end
section
namespace Go.Proofs.YtfhhihamndbcnaaGreatDoor.Fl
open Go.RowKit
structure Laid (w:World):Prop where
 g0:w.cell? ⟨2,0,none⟩=some (.string tOpen)
 g1:w.cell? ⟨2,1,none⟩=some (.string tMove)
 g2:w.cell? ⟨2,2,none⟩=some (.string tFx)
 g3:w.cell? ⟨2,3,none⟩=some (.string tScope)
 g4:w.cell? ⟨2,4,none⟩=some (.string tClose)
theorem Laid.below {w w':World} {B:Nat} (h:Laid w) (hb:Below B w w') (hB:w.heap.size≤B):Laid w' :=
 have lt:=Nat.lt_of_lt_of_le (World.block_lt_of_cell? w _ h.g0) hB
 ⟨(hb.cell (p:=⟨_,0,none⟩) lt).trans h.g0,(hb.cell (p:=⟨_,1,none⟩) lt).trans h.g1,(hb.cell (p:=⟨_,2,none⟩) lt).trans h.g2,(hb.cell (p:=⟨_,3,none⟩) lt).trans h.g3,(hb.cell (p:=⟨_,4,none⟩) lt).trans h.g4⟩
theorem Laid.drew {w:World} (h:Laid w):Laid w.drew:=⟨h.g0,h.g1,h.g2,h.g3,h.g4⟩
theorem at_arr0 (w:World):(Instr.index 272 (.agg #[.string tOpen,.string tMove,.string tFx,.string tScope,.string tClose]) (.int .i64 0)).run Tryz.prog w=.ok (.string tOpen) w:=by kernel_rfl
theorem at_arr1 (w:World):(Instr.index 272 (.agg #[.string tOpen,.string tMove,.string tFx,.string tScope,.string tClose]) (.int .i64 1)).run Tryz.prog w=.ok (.string tMove) w:=by kernel_rfl
theorem at_arr2 (w:World):(Instr.index 272 (.agg #[.string tOpen,.string tMove,.string tFx,.string tScope,.string tClose]) (.int .i64 2)).run Tryz.prog w=.ok (.string tFx) w:=by kernel_rfl
theorem at_arr3 (w:World):(Instr.index 272 (.agg #[.string tOpen,.string tMove,.string tFx,.string tScope,.string tClose]) (.int .i64 3)).run Tryz.prog w=.ok (.string tScope) w:=by kernel_rfl
theorem at_arr4 (w:World):(Instr.index 272 (.agg #[.string tOpen,.string tMove,.string tFx,.string tScope,.string tClose]) (.int .i64 4)).run Tryz.prog w=.ok (.string tClose) w:=by kernel_rfl
theorem ret_int {a b:Int} (h:a=b):Ending.returned (.int .i64 a)=.returned (.int .i64 b):=by rw [h]
theorem kindO_no {s:ByteArray} (h0:tOpen≠s) (h1:tMove≠s) (h2:tFx≠s) (h3:tScope≠s) (h4:tClose≠s):kindO s=-1:=by
 unfold kindO
 rw [if_neg (fun e=>h0 e.symm),if_neg (fun e=>h1 e.symm),if_neg (fun e=>h2 e.symm),if_neg (fun e=>h3 e.symm),if_neg (fun e=>h4 e.symm)]
set_option maxRecDepth 100000 in
set_option maxHeartbeats 4000000 in
theorem kindOf_any (s:ByteArray) (w:World) (hL:Laid w) :
 Calls Tryz.prog 148 #[.string s] w fun e w'=>e=.returned (.int .i64 (kindO s))∧w=w':=by
 obtain ⟨g0,g1,g2,g3,g4⟩:=hL
 obtain ⟨r,hr⟩:∃ r,kindO s=r:=⟨_,rfl⟩
 rw [hr]
 have HR:=Lib.hid hr
 clear hr
 obtain ⟨A,hA⟩:∃ A,tOpen=A:=⟨_,rfl⟩
 obtain ⟨B,hB⟩:∃ B,tMove=B:=⟨_,rfl⟩
 obtain ⟨C,hC⟩:∃ C,tFx=C:=⟨_,rfl⟩
 obtain ⟨D,hD⟩:∃ D,tScope=D:=⟨_,rfl⟩
 obtain ⟨E,hE⟩:∃ E,tClose=E:=⟨_,rfl⟩
 have i0:=at_arr0
 have i1:=at_arr1
 have i2:=at_arr2
 have i3:=at_arr3
 have i4:=at_arr4
 rw [hA] at g0
 rw [hB] at g1
 rw [hC] at g2
 rw [hD] at g3
 rw [hE] at g4
 rw [hA,hB,hC,hD,hE] at i0 i1 i2 i3 i4
 have HA:=Lib.hid hA
 have HBB:=Lib.hid hB
 have HCC:=Lib.hid hC
 have HDD:=Lib.hid hD
 have HEE:=Lib.hid hE
 clear hA hB hC hD hE
 cases hs0:(A.toList==s.toList) with
 | true =>
   have HS:=Lib.hid ((Lib.bytes_beq_iff A s).1 hs0)
   go_enter Tryz.func148,Tryz.ntmps148
   go_wp2
   refine wp_loop_rounds 1 ?_
   rw [rounds_succ]
   go_wp2
   go_ret
   exact ⟨ret_int (by rw [←HR.out,←HS.out,←HA.out];decide),rfl⟩
 | false =>
   have HS:=Lib.hid ((Lib.bytes_beq_false_iff A s).1 hs0)
   cases hs1:(B.toList==s.toList) with
   | true =>
     have HS1:=Lib.hid ((Lib.bytes_beq_iff B s).1 hs1)
     go_enter Tryz.func148,Tryz.ntmps148
     go_wp2
     refine wp_loop_rounds 2 ?_
     rw [rounds_succ]
     go_wp2
     rw [rounds_succ]
     go_wp2
     go_ret
     exact ⟨ret_int (by rw [←HR.out,←HS1.out,←HBB.out];decide),rfl⟩
   | false =>
     have HS1:=Lib.hid ((Lib.bytes_beq_false_iff B s).1 hs1)
     cases hs2:(C.toList==s.toList) with
     | true =>
       have HS2:=Lib.hid ((Lib.bytes_beq_iff C s).1 hs2)
       go_enter Tryz.func148,Tryz.ntmps148
       go_wp2
       refine wp_loop_rounds 3 ?_
       rw [rounds_succ]
       go_wp2
       rw [rounds_succ]
       go_wp2
       rw [rounds_succ]
       go_wp2
       go_ret
       exact ⟨ret_int (by rw [←HR.out,←HS2.out,←HCC.out];decide),rfl⟩
     | false =>
       have HS2:=Lib.hid ((Lib.bytes_beq_false_iff C s).1 hs2)
       cases hs3:(D.toList==s.toList) with
       | true =>
         have HS3:=Lib.hid ((Lib.bytes_beq_iff D s).1 hs3)
         go_enter Tryz.func148,Tryz.ntmps148
         go_wp2
         refine wp_loop_rounds 4 ?_
         rw [rounds_succ]
         go_wp2
         rw [rounds_succ]
         go_wp2
         rw [rounds_succ]
         go_wp2
         rw [rounds_succ]
         go_wp2
         go_ret
         exact ⟨ret_int (by rw [←HR.out,←HS3.out,←HDD.out];decide),rfl⟩
       | false =>
         have HS3:=Lib.hid ((Lib.bytes_beq_false_iff D s).1 hs3)
         cases hs4:(E.toList==s.toList) with
         | true =>
           have HS4:=Lib.hid ((Lib.bytes_beq_iff E s).1 hs4)
           go_enter Tryz.func148,Tryz.ntmps148
           go_wp2
           refine wp_loop_rounds 5 ?_
           rw [rounds_succ]
           go_wp2
           rw [rounds_succ]
           go_wp2
           rw [rounds_succ]
           go_wp2
           rw [rounds_succ]
           go_wp2
           rw [rounds_succ]
           go_wp2
           go_ret
           exact ⟨ret_int (by rw [←HR.out,←HS4.out,←HEE.out];decide),rfl⟩
         | false =>
           have HS4:=Lib.hid ((Lib.bytes_beq_false_iff E s).1 hs4)
           have hres:Hid (r=-1):=Lib.hid (by
            rw [←HR.out]
            exact kindO_no (by rw [HA.out];exact HS.out) (by rw [HBB.out];exact HS1.out) (by rw [HCC.out];exact HS2.out) (by rw [HDD.out];exact HS3.out) (by rw [HEE.out];exact HS4.out))
           go_enter Tryz.func148,Tryz.ntmps148
           go_wp2
           refine wp_loop_rounds 6 ?_
           rw [rounds_succ]
           go_wp2
           rw [rounds_succ]
           go_wp2
           rw [rounds_succ]
           go_wp2
           rw [rounds_succ]
           go_wp2
           rw [rounds_succ]
           go_wp2
           rw [rounds_succ]
           go_wp2
           go_ret
           exact ⟨ret_int hres.out.symm,rfl⟩
theorem strs_three (w:World) (x y z:ByteArray) (t:TypeId):StrsV (w.alloc (.cells #[.string x,.string y,.string z] t)) (.slice (some ⟨w.heap.size,0,none⟩) 3 3) [x,y,z] :=
 strs_new w [x,y,z] t (by show 3≤_;unfold maxLen;omega)
theorem below_drewN' {B:Nat} {a w:World} (h:Below B a w) (n:Nat):Below B a (w.drewN n):=⟨h.os,h.tape,h.output,h.size,h.block⟩
theorem below_drew' {B:Nat} {a w:World} (h:Below B a w):Below B a w.drew:=⟨h.os,h.tape,h.output,h.size,h.block⟩
end Go.Proofs.YtfhhihamndbcnaaGreatDoor.Fl
end
section
namespace Go.Proofs.YtfhhihamndbcnaaGreatDoor.Fl
open Go.RowKit
theorem cell_on {w w':World} {p:Addr} {v:Value} (hb:Below w.heap.size w w') (h:w.cell? p=some v):w'.cell? p=some v:=(hb.cell (World.block_lt_of_cell? w _ h)).trans h
abbrev zc:Array Value:=#[.string ⟨#[]⟩,.int .i64 0]
theorem list_flow:tFlow.toList=[102,108,111,119]:=by rw [ByteArray.toList_eq];rfl
theorem beq_flow (x:ByteArray):(x.toList==[102,108,111,119])=decide (x=tFlow):=by
 rw [←list_flow]
 cases h:(x.toList==tFlow.toList) with
 | true=>rw [decide_eq_true ((Lib.bytes_beq_iff x tFlow).1 h)]
 | false=>rw [decide_eq_false ((Lib.bytes_beq_false_iff x tFlow).1 h)]
def ParseAt (w wx:World) (A:Flow):Prop:=BoxE encF wx (w.heap.size+1) 81 A∧Below (w.heap.size+1) (w.alloc (.cells zc 81)) wx
set_option maxRecDepth 100000 in
set_option maxHeartbeats 8000000 in
theorem parse_any (v:Value) (ws:List ByteArray) (w:World) (h:StrsV w v ws) (hL:Laid w) :
 Calls Tryz.prog 112 #[v] w fun e w'=>e=.returned (.tuple #[aggL (parseF ws).1,.int .i64 (parseF ws).2])∧Below w.heap.size w w':=by
 have HV:=Lib.hid h
 obtain ⟨p,c,rfl,hcap,hm,hc⟩:=h
 have HB0:=Lib.hid ((Below.refl w.heap.size w).alloc (Nat.le_refl _) (.cells zc 81))
 have HX0:=Lib.hid (BoxE.new encF w zeroF 81)
 by_cases h3:ws.length=3
 ·match ws,h3 with
  | [x0,x1,x2],_ =>
    obtain ⟨b,o,rfl,k0'⟩:=hc 0 x0 rfl
    obtain ⟨b',o',e',k1⟩:=hc 1 x1 rfl
    cases e'
    obtain ⟨b',o',e',k2⟩:=hc 2 x2 rfl
    cases e'
    have k0:w.cell? ⟨b,o,none⟩=some (.string x0):=k0'
    have j0:=cell_on HB0.out k0
    have j1:=cell_on HB0.out k1
    have j2:=cell_on HB0.out k2
    have HNB:Hid (b≠w.heap.size):=Lib.hid (by have:=World.block_lt_of_cell? w _ k0;simp at this;omega)
    have HLT:Hid (b < w.heap.size):=Lib.hid (World.block_lt_of_cell? w _ k0)
    have HL0:=Lib.hid (hL.below HB0.out (Nat.le_refl _))
    rw [parse_three]
    obtain ⟨A,hA⟩:∃ A:Flow,(⟨x1,kindO x2⟩:Flow)=A:=⟨_,rfl⟩
    rw [hA]
    have HA:=Lib.hid hA
    clear hc hA k0' k0 k1 k2 hL hm hcap HV
    show Calls _ _ #[.slice (some ⟨b,o,none⟩) 3 c] _ _
    obtain ⟨W0,hW0⟩:∃ W0,w.alloc (.cells zc 81)=W0:=⟨_,rfl⟩
    have HSZ:Hid (W0.heap.size=w.heap.size+1):=Lib.hid (by rw [←hW0];simp)
    have HX1:Hid (BoxE encF W0 w.heap.size 81 zeroF):=Lib.hid (by rw [←hW0];exact HX0.out)
    rw [hW0] at HB0 HL0 j0 j1 j2
    clear HX0
    cases hx0:(x0.toList==[102,108,111,119]) with
    | false =>
      have hne:¬ (x0=tFlow∧rightF A=true):=fun e=>by
       rw [beq_flow,e.1] at hx0;simp at hx0
      rw [if_neg hne]
      have hxn:(!x0.toList==[102,108,111,119])=true:=by rw [hx0];rfl
      clear hne hx0
      go_enter Tryz.func112,Tryz.ntmps112
      go_wp2_with (refine wpList_store_el (E:=encF) rfl 81 (.tmp 2) (.tmp 14) rfl w.heap.size zeroF zeroF 81 rfl rfl HX1.out (by kernel_rfl) ?_;intro w8 hb8 hg8)
      have HF:=Lib.hid (HB0.out.grown hg8 HB0.out.size (fun j hj=>by cases hj;exact Nat.le_refl _))
      obtain ⟨t0,t1⟩:=box hb8
      clear hb8 hg8
      refine bodyPost_ret (v:=.tuple #[aggL zeroF,.int .i64 5]) (by simp [results,Tryz.results112,go_sem,t0,t1]) rfl ⟨rfl,HF.out⟩
    | true =>
      have hx:x0=tFlow:=by rw [beq_flow] at hx0;exact of_decide_eq_true hx0
      have hxn:(!x0.toList==[102,108,111,119])=false:=by rw [hx0];rfl
      have HE:Hid (∀ r,rightF A=r→(if x0=tFlow∧rightF A=true then (A,(0:Int)) else (zeroF,5))=if r=true then (A,0) else (zeroF,5)):=Lib.hid (fun r hr=>by
       rw [hr];cases r <;> simp [hx])
      obtain ⟨R,hR⟩:∃ R,(if x0=tFlow∧rightF A=true then (A,(0:Int)) else (zeroF,5))=R:=⟨_,rfl⟩
      rw [hR] at HE ⊢
      clear hR hx hx0
      go_enter Tryz.func112,Tryz.ntmps112
      go_upto_region 3 with (fail)
      have HW0:=Lib.hid hW0
      clear hW0 j0
      go_cut [4] (fun s4 wx=>s4=.pointer (some ⟨w.heap.size+1,0,none⟩)∧ParseAt w wx A)
      case first =>
       have hba:=(Below.refl W0.heap.size W0).alloc (Nat.le_refl _) (.cells zc 81)
       have n1:=cell_on hba j1
       have n2:=cell_on hba j2
       have y1:W0.drew.cell? ⟨b,o+1,none⟩=some (.string x1):=j1
       have y2:W0.drew.cell? ⟨b,o+2,none⟩=some (.string x2):=j2
       have z1:(W0.alloc (.cells zc 81)).drew.cell? ⟨b,o+1,none⟩=some (.string x1):=n1
       have z2:(W0.alloc (.cells zc 81)).drew.cell? ⟨b,o+2,none⟩=some (.string x2):=n2
       have HLa:=Lib.hid (HL0.out.below hba (Nat.le_refl _))
       have hbl:=fun C:Array Value=>(Below.refl W0.heap.size W0).alloc (Nat.le_refl _) (.cells C 81)
       have p1:=fun C:Array Value=>cell_on (hbl C) j1
       have p2:=fun C:Array Value=>cell_on (hbl C) j2
       clear hba hbl
       go_region_held3 (fun w'=>w'.cell? ⟨b,o+1,none⟩=some (.string x1)∧w'.cell? ⟨b,o+2,none⟩=some (.string x2))
        (first | (with_reducible exact ⟨j1,j2⟩) | (with_reducible exact ⟨y1,y2⟩) | (with_reducible exact ⟨n1,n2⟩) | (with_reducible exact ⟨z1,z2⟩) | exact ⟨p1 _,p2 _⟩ | fail)
        (first
         | (go_at_call 148;refine (kindOf_any x2 W0.drew HL0.out.drew).mono ?_;rintro e w' ⟨rfl,rfl⟩)
         | (go_at_call 148;refine (kindOf_any x2 (W0.alloc (.cells zc 81)).drew HLa.out.drew).mono ?_;rintro e w' ⟨rfl,rfl⟩)
         | fail)
       all_goals
        go_wp2_with fail
        go_meet
        case rel =>
         refine ⟨by rw [←HSZ.out],?_⟩
         exact ⟨by rw [←HSZ.out,←HA.out];exact BoxE.new encF W0 ⟨x1,kindO x2⟩ 81,by rw [HW0.out,←HSZ.out];exact below_drew' ((Below.refl W0.heap.size W0).alloc (Nat.le_refl _) _)⟩
      case rest =>
       obtain ⟨rfl,hP⟩:=hcut
       rename World=>wx
       obtain ⟨hx,hb⟩:=hP
       rw [HW0.out] at hb
       rw [←HSZ.out] at hb
       have HXR:=Lib.hid (HX1.out.keep hb (by rw [HSZ.out];omega))
       have HBX:=Lib.hid (HB0.out.trans (hb.mono (by rw [HSZ.out];omega)))
       have HX:=Lib.hid hx
       obtain ⟨d0,d1⟩:=box hx
       have hlt:w.heap.size < wx.heap.size:=by have:=hb.size;rw [HSZ.out] at this;omega
       have hgx:=hx.lt
       obtain ⟨r,hr⟩:∃ r,rightF A=r:=⟨_,rfl⟩
       have HRA:=Lib.hid (right_any A)
       rw [hr] at HRA
       have HER:=Lib.hid (HE.out r hr)
       clear hx hb j1 j2 hr
       go_wp2_with fail
       clear d0 d1
       refine (HRA.out wx).mono ?_
       rintro e w7 ⟨rfl,hb7⟩
       have HXR7:=Lib.hid (HXR.out.keep hb7 hlt)
       have HX7:=Lib.hid (HX.out.keep hb7 hgx)
       have HB7:=Lib.hid (HBX.out.trans (hb7.mono HBX.out.size))
       clear hb7
       cases r with
       | true =>
         obtain ⟨d0,d1⟩:=box HX7.out
         go_wp2_with (refine wpList_store_el (E:=encF) rfl 81 (.tmp 2) (.tmp 27) rfl w.heap.size zeroF A 81 rfl rfl HXR7.out (by kernel_rfl) ?_;intro w8 hb8 hg8)
         have HF:=Lib.hid (HB7.out.grown hg8 HB7.out.size (fun j hj=>by cases hj;exact Nat.le_refl _))
         obtain ⟨t0,t1⟩:=box hb8
         clear hb8 hg8
         refine bodyPost_ret (v:=.tuple #[aggL A,.int .i64 0]) (by simp [results,Tryz.results112,go_sem,t0,t1]) rfl ⟨by rw [HER.out];rfl,HF.out⟩
       | false =>
         go_wp2_with (refine wpList_store_el (E:=encF) rfl 81 (.tmp 2) (.tmp 26) rfl w.heap.size zeroF zeroF 81 rfl rfl HXR7.out (by kernel_rfl) ?_;intro w8 hb8 hg8)
         have HF:=Lib.hid (HB7.out.grown hg8 HB7.out.size (fun j hj=>by cases hj;exact Nat.le_refl _))
         obtain ⟨t0,t1⟩:=box hb8
         clear hb8 hg8
         refine bodyPost_ret (v:=.tuple #[aggL zeroF,.int .i64 5]) (by simp [results,Tryz.results112,go_sem,t0,t1]) rfl ⟨by rw [HER.out];rfl,HF.out⟩
 ·have HP:=Lib.hid (parse_len h3)
  rw [HP.out]
  obtain ⟨n,hn⟩:∃ n,ws.length=n:=⟨_,rfl⟩
  rw [hn] at h3 hcap hm ⊢
  unfold maxLen at hm
  have hnz:((n:Int) != 3)=true:=by simp;omega
  clear hc hn h3 HV
  go_enter Tryz.func112,Tryz.ntmps112
  go_wp2
  refine bodyPost_ret (v:=.tuple #[aggL zeroF,.int .i64 5]) (by simp [results,Tryz.results112,go_sem,zeroF]) rfl ⟨rfl,HB0.out⟩
end Go.Proofs.YtfhhihamndbcnaaGreatDoor.Fl
end
