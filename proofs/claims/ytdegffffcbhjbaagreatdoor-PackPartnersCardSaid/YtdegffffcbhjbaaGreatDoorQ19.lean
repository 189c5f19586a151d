/- LexRlines UnitHad UnitDocParse PkMaster FaEql CentAdd CentSum PkStart FaOurs -/
import Derived.Test.YtdegffffcbhjbaaGreatDoorQ11
import Derived.Test.YtdegffffcbhjbaaGreatDoorQ18
section
namespace Go.Proofs.YtdegffffcbhjbaaGreatDoor
open Go.RowKit
theorem info_rline2:(Tryz.prog.info? 69).map (fun i=>(i.zero,i.size,i.bytes))=some (some (.agg #[.int .i64 0,.slice none 0 0]),2,32):=by kernel_rfl
def RLinesAt (w:World) (l:List UInt8) (s5 s6 s7 s8:Value) (wr:World):Prop :=
 ∃ (k f n:Nat) (LV:List (Int × Value)) (out:List (Nat × List (List UInt8))),s8=.int .i64 (k:Int)∧s7=.int .i64 (f:Int)∧s6=.int .i64 (n:Int)∧k≤l.length+1∧f≤l.length+1∧n≤k+1∧out.length≤k ∧
   (k≤l.length→f≤k∧linesL l=out++numP (enumL n (linesGo (pieceL l (f,k)) (l.drop k))))∧(k=l.length+1→linesL l=out) ∧
   wr.ownsRow w.heap.size 69 2 s5 LV.length (flatL LV)∧WordsOwn wr w.heap.size 9 LV (asB out)∧Below w.heap.size w wr
theorem own_slice {W:World} {B:Nat} {e:TypeId} {s:Nat} {v:Value} {n:Nat} {xs:List Value} (h:W.ownsRow B e s v n xs):∃ a c,v=.slice a n c:=by
 rcases h.2 with ⟨rfl,rfl⟩ | ⟨g,cap,cur,rfl,_⟩
 ·exact ⟨_,_,rfl⟩
 ·exact ⟨_,_,rfl⟩
theorem numP_cons (n:Nat) (x:List UInt8) (r:List (Nat × List UInt8)):numP ((n,x)::r)=numP [(n,x)]++numP r:=by
 rw [←numP_append];rfl
theorem pieceL_nil (l:List UInt8) (a:Nat):pieceL l (a,a)=[]:=by simp [pieceL]
theorem rl_end (l out:List UInt8) (o:List (Nat × List (List UInt8))) (n f k:Nat) (h:linesL l=o++numP (enumL n (linesGo (pieceL l (f,k)) (l.drop k)))) (hk:l.drop k=10::out) (h1:l.drop (k+1)=out) :
 linesL l=(o++numP [(n,pieceL l (f,k))])++numP (enumL (n+1) (linesGo (pieceL l (k+1,k+1)) (l.drop (k+1)))):=by
 rw [h,hk,h1,pieceL_nil]
 simp only [linesGo,if_true,enumL]
 rw [numP_cons]
 simp
theorem rl_last (l:List UInt8) (o:List (Nat × List (List UInt8))) (n f k:Nat) (h:linesL l=o++numP (enumL n (linesGo (pieceL l (f,k)) (l.drop k)))) (hk:l.drop k=[]) :
 linesL l=o++numP [(n,pieceL l (f,k))]:=by
 rw [h,hk];rfl
def LinesHad (w:World) (L:List (Int × List ByteArray)) (c:Int) (e:Ending) (w':World):Prop :=
 ∃ v LV,e=.returned (.tuple #[v,.int .i64 c])∧w'.ownsRow w.heap.size 69 2 v LV.length (flatL LV)∧WordsOwn w' w.heap.size 9 LV L∧Below w.heap.size w w'
theorem LinesHad.none (w W:World) (h:Below w.heap.size w W) (c:Int):LinesHad w [] c (.returned (.tuple #[.slice none 0 0,.int .i64 c])) W :=
 ⟨_,[],rfl,World.ownsRow_nil _ _ _ _,WordsOwn.nil _ _ _,h⟩
theorem rlines_big (s:ByteArray) (w:World) (h:20000 < s.size) (hs:s.size≤30000) :
 Calls Tryz.prog 21 #[.string s] w (LinesHad w [] 4):=by
 go_enter Tryz.func21,Tryz.ntmps21
 go_wp2
 go_ret2
 exact LinesHad.none w w (Below.refl _ _) 4
set_option maxRecDepth 100000 in
set_option maxHeartbeats 4000000 in
theorem rlines_small (s:ByteArray) (w:World) (hs:s.size≤20000) :
 Calls Tryz.prog 21 #[.string s] w (LinesHad w (asB (if okL s.data.toList then linesL s.data.toList else [])) (if okL s.data.toList then 0 else 5)):=by
 obtain ⟨RV,hRV⟩:∃ RV,asB (if okL s.data.toList then linesL s.data.toList else [])=RV:=⟨_,rfl⟩
 obtain ⟨RE,hRE⟩:∃ RE:Int,(if okL s.data.toList then (0:Int) else 5)=RE:=⟨_,rfl⟩
 rw [hRV,hRE]
 have HRV:=Lib.hid hRV
 have HRE:=Lib.hid hRE
 have HSL:=Lib.hid (size_list s)
 clear hRV hRE
 have HBAD:Hid (okL s.data.toList=false→∀ W,LinesHad W RV RE (.returned (.tuple #[.slice none 0 0,.int .i64 5])) W):=Lib.hid fun hno W=>by
  rw [←HRE.out,←HRV.out,hno]
  exact LinesHad.none W W (Below.refl _ _) _
 have h1:¬ 20000 < s.size:=by omega
 obtain ⟨i0,hi,hz0,hz1,hz2⟩:=info_parts info_rline2
 have HI:=Lib.hid (And.intro hi (And.intro hz0 (And.intro hz1 hz2)))
 clear hi hz0 hz1 hz2
 go_enter Tryz.func21,Tryz.ntmps21
 go_wp2
 go_loop [4] (fun i=>∃ k:Nat,k≤s.size∧i=.int .i64 k∧(s.data.toList.take k).all okB=true) (fun i=>s.size - (intOf i).toNat)
 case atStart=>exact ⟨0,Nat.zero_le _,rfl,rfl⟩
 case round =>
  obtain ⟨k,hk,rfl,hd⟩:=hrel
  have HD:=Lib.hid hd
  clear hd
  by_cases hlt:k < s.size
  ·have HO:=Lib.hid (okB_dec s[k])
   have hb:s[k].toNat < 256:=UInt8.toNat_lt _
   go_wp2
   all_goals first
    | (go_ret2
       exact HBAD.out (all_no okB s k hlt (by rw [HO.out];exact decide_eq_false (by omega))) _)
    | (go_round
       case rel=>exact ⟨k+1,by omega,by go_num,by rw [all_take okB s k hlt,HD.out,HO.out];exact decide_eq_true (by first | omega | (simp only [bne_eq_false_iff_eq] at *;omega))⟩
       case measure=>simp [intOf];omega)
  ·have hok:okL s.data.toList=true:=all_end okB s k hlt hk HD.out
   have HRV':Hid (asB (linesL s.data.toList)=RV):=Lib.hid (by rw [←HRV.out,hok];rfl)
   have HRE':Hid (RE=0):=Lib.hid (by rw [←HRE.out,hok];rfl)
   clear hok
   go_wp2
   go_loopw [5,6,7,8] (fun s5 s6 s7 s8 wr=>RLinesAt w s.data.toList s5 s6 s7 s8 wr) (fun _ _ _ s8 _=>s.size+1 - (intOf s8).toNat)
   case atStart=>exact ⟨0,0,1,[],[],rfl,rfl,rfl,by omega,by omega,by omega,Nat.le_refl _,fun _=>⟨Nat.le_refl _,rfl⟩,fun h=>by omega,World.ownsRow_nil _ _ _ _,WordsOwn.nil _ _ _,Below.refl _ _⟩
   case round =>
    obtain ⟨k2,f,n,LV,out,rfl,rfl,rfl,hk2,hf2,hn2,hol,hgo,hend,hown,hw,hnx⟩:=hrel
    rw [HSL.out] at hk2 hf2 hgo hend
    have hlv:LV.length≤k2:=by rw [hw.1,asB_length];exact hol
    have HGO:=Lib.hid hgo
    have HEN:=Lib.hid hend
    have HOW:=Lib.hid hown
    have HWW:=Lib.hid hw
    have HNX:=Lib.hid hnx
    clear hgo hend hown hw hnx
    by_cases hlast:k2≤s.size
    ·obtain ⟨hfk,hL⟩:=HGO.out hlast
     have HL:=Lib.hid hL
     clear hL
     by_cases hke:k2=s.size
     ·have hdr:s.data.toList.drop k2=[]:=List.drop_eq_nil_of_le (by rw [HSL.out];omega)
      obtain ⟨P,hP⟩:∃ P,pieceL s.data.toList (f,k2)=P:=⟨_,rfl⟩
      have hPx:(s.extract f k2).data.toList=P:=by rw [piece_mid,mkB_data,←hP];rfl
      obtain ⟨x,hx⟩:∃ x,s.extract f k2=x:=⟨_,rfl⟩
      rw [hx] at hPx
      have hxs:x.size≤30000:=by rw [←size_list,hPx,←hP];unfold pieceL;rw [List.length_take,List.length_drop,HSL.out];omega
      have HRW:Hid (∀ W,Calls Tryz.prog 42 #[.string x] W (RWordsPost W (wordsL P))):=Lib.hid fun W=>by
       have:=lrwords_any x W hxs
       rwa [hPx] at this
      have c1:(0:Int)≤↑f:=by omega
      have c2:(↑f:Int)≤↑k2:=by omega
      have c3:(↑k2:Int)≤↑s.size:=by omega
      have HNEW:Hid (linesL s.data.toList=out++numP [(n,P)]):=Lib.hid (by rw [←hP];exact rl_last _ _ _ _ _ HL.out hdr)
      have hkb:((k2:Int)==(s.size:Int))=true:=by rw [beq_iff_eq];omega
      have HKE:=Lib.hid hke
      clear hdr hP hPx hke
      by_cases hpw:wordsL P=[]
      ·have HP1:Hid (numP [(n,P)]=[]):=Lib.hid (by simp [numP,hpw])
       have HPW:Hid (wordsL P=[]):=Lib.hid hpw
       clear hpw
       go_wp2_with fail
       refine (HRW.out _).mono ?_
       rintro e w2 ⟨v,rfl,ho,hb⟩
       obtain ⟨av,cv,rfl⟩:=own_slice ho
       rw [HPW.out]
       simp only [List.map_nil,List.length_nil]
       have HO2:=Lib.hid (row_below HOW.out hb)
       have HW2:=Lib.hid (HWW.out.mono fun u m xs hu=>row_below hu hb)
       have HN2:=Lib.hid (HNX.out.trans (hb.mono HNX.out.size))
       clear ho hb
       go_wp2
       go_roundw
       case rel=>exact ⟨k2+1,k2+1,n+1,LV,out++numP [(n,P)],by go_num,by go_num,by go_num,by rw [HSL.out];omega,by rw [HSL.out];omega,by omega,by rw [HP1.out,List.append_nil];omega,(fun h=>by rw [HSL.out] at h;have:=HKE.out;omega),fun _=>HNEW.out,HO2.out,by rw [HP1.out,List.append_nil];exact HW2.out,HN2.out⟩
       case measure=>simp [intOf];omega
      ·have HP1:Hid (numP [(n,P)]=[(n,wordsL P)]):=Lib.hid (by simp [numP,hpw])
       have hpl:0 < ((wordsL P).map mkB).length:=by rw [List.length_map];exact List.length_pos_iff.2 hpw
       obtain ⟨ws,hws⟩:∃ ws,(wordsL P).map mkB=ws:=⟨_,rfl⟩
       have HWS:=Lib.hid hws
       rw [hws] at hpl
       clear hpw hws
       go_wp2_with fail
       refine (HRW.out _).mono ?_
       rintro e w2 ⟨v,rfl,ho,hb⟩
       rw [HWS.out] at ho
       obtain ⟨av,cv,rfl⟩:=own_slice ho
       have hrow1:=row_below HOW.out hb
       have HW2:=Lib.hid (HWW.out.mono fun u m xs hu=>row_below hu hb)
       have HN2:=Lib.hid (HNX.out.trans (hb.mono HNX.out.size))
       have hsz2:w.heap.size≤w2.heap.size:=HN2.out.size
       have HO9:=Lib.hid (row_base ho HNX.out.size)
       have HR1:=Lib.hid hrow1
       clear ho hb hrow1
       go_wp2_with (at_builtin;refine wpList_append_own _ rfl _ _ 64 rfl w.heap.size 69 i0 (.agg #[.int .i64 0,.slice none 0 0]) 2 32 Tryz.underlying64 HI.out.1 HI.out.2.1 HI.out.2.2.1 HI.out.2.2.2 rfl (by decide) _ _ _ rfl (HR1.out.alloc _) ⟨w2.heap.size,0,none⟩ 1 1 [.int .i64 (n:Int),.slice av ws.length cv] rfl rfl (cell_two_new' _ _ _ _) (by intro u hu;simp at hu;rcases hu with rfl | rfl <;> rfl) (by unfold maxLen;omega) (by omega) (by simp;omega) ?_;intro v' w3 hown' hgrow _)
       have hK9:∀ (u:Value) (m:Nat) (xs:List Value),w2.ownsRow w.heap.size 9 1 u m xs→w3.ownsRow w.heap.size 9 1 u m xs:=fun u m xs hu =>
        (hu.alloc (.cells #[.int .i64 (n:Int),.slice av ws.length cv] 69)).kept hgrow (row_apart HR1.out hu (by decide))
       have HWF:Hid (WordsOwn w3 w.heap.size 9 (LV++[((n:Int),.slice av ws.length cv)]) (asB (out++numP [(n,P)]))):=Lib.hid (by
        rw [HP1.out,asB_append]
        have:asB [(n,wordsL P)]=[((n:Int),ws)]:=by simp [asB,HWS.out]
        rw [this]
        exact (HW2.out.mono hK9).snoc _ _ _ (hK9 _ _ _ HO9.out))
       have HOF:Hid (w3.ownsRow w.heap.size 69 2 v' (LV++[((n:Int),Value.slice av ws.length cv)]).length (flatL (LV++[((n:Int),Value.slice av ws.length cv)]))):=Lib.hid (by
        rw [flatL_snoc,List.length_append];exact hown')
       have HBF:=Lib.hid (below_grown (HN2.out.alloc hsz2 _) (by simp;omega) (HR1.out.alloc _) hgrow)
       clear hK9 hown' hgrow
       go_roundw
       case rel=>exact ⟨k2+1,k2+1,n+1,_,out++numP [(n,P)],by go_num,by go_num,by go_num,by rw [HSL.out];omega,by rw [HSL.out];omega,by omega,by rw [HP1.out];simp;omega,(fun h=>by rw [HSL.out] at h;have:=HKE.out;omega),fun _=>HNEW.out,HOF.out,HWF.out,HBF.out⟩
       case measure=>simp [intOf];omega
     ·have hkl:k2 < s.size:=by omega
      have hkb:((k2:Int)==(s.size:Int))=false:=by rw [beq_eq_false_iff_ne];omega
      have hdr:=drop_at s k2 hkl
      by_cases h10:s[k2].toNat=10
      ·have hc10:s[k2]=10:=UInt8.toNat_inj.1 h10
       rw [hc10] at hdr
       obtain ⟨P,hP⟩:∃ P,pieceL s.data.toList (f,k2)=P:=⟨_,rfl⟩
       have hPx:(s.extract f k2).data.toList=P:=by rw [piece_mid,mkB_data,←hP];rfl
       obtain ⟨x,hx⟩:∃ x,s.extract f k2=x:=⟨_,rfl⟩
       rw [hx] at hPx
       have hxs:x.size≤30000:=by rw [←size_list,hPx,←hP];unfold pieceL;rw [List.length_take,List.length_drop,HSL.out];omega
       have HRW:Hid (∀ W,Calls Tryz.prog 42 #[.string x] W (RWordsPost W (wordsL P))):=Lib.hid fun W=>by
        have:=lrwords_any x W hxs
        rwa [hPx] at this
       have c1:(0:Int)≤↑f:=by omega
       have c2:(↑f:Int)≤↑k2:=by omega
       have c3:(↑k2:Int)≤↑s.size:=by omega
       have HNEW:Hid (linesL s.data.toList=(out++numP [(n,P)])++numP (enumL (n+1) (linesGo (pieceL s.data.toList (k2+1,k2+1)) (s.data.toList.drop (k2+1))))):=Lib.hid (by rw [←hP];exact rl_end _ _ _ _ _ _ HL.out hdr rfl)
       have hb10:((s[k2].toNat:Int)==10)=true:=by rw [beq_iff_eq];omega
       clear hdr hP hPx hke h10 hc10
       by_cases hpw:wordsL P=[]
       ·have HP1:Hid (numP [(n,P)]=[]):=Lib.hid (by simp [numP,hpw])
        have HPW:Hid (wordsL P=[]):=Lib.hid hpw
        clear hpw
        go_wp2_with fail
        refine (HRW.out _).mono ?_
        rintro e w2 ⟨v,rfl,ho,hb⟩
        obtain ⟨av,cv,rfl⟩:=own_slice ho
        rw [HPW.out]
        simp only [List.map_nil,List.length_nil]
        have HO2:=Lib.hid (row_below HOW.out hb)
        have HW2:=Lib.hid (HWW.out.mono fun u m xs hu=>row_below hu hb)
        have HN2:=Lib.hid (HNX.out.trans (hb.mono HNX.out.size))
        clear ho hb
        go_wp2
        go_roundw
        case rel=>exact ⟨k2+1,k2+1,n+1,LV,out++numP [(n,P)],by go_num,by go_num,by go_num,by rw [HSL.out];omega,by rw [HSL.out];omega,by omega,by rw [HP1.out,List.append_nil];omega,fun _=>⟨Nat.le_refl _,HNEW.out⟩,(fun h=>by rw [HSL.out] at h;omega),HO2.out,by rw [HP1.out,List.append_nil];exact HW2.out,HN2.out⟩
        case measure=>simp [intOf];omega
       ·have HP1:Hid (numP [(n,P)]=[(n,wordsL P)]):=Lib.hid (by simp [numP,hpw])
        have hpl:0 < ((wordsL P).map mkB).length:=by rw [List.length_map];exact List.length_pos_iff.2 hpw
        obtain ⟨ws,hws⟩:∃ ws,(wordsL P).map mkB=ws:=⟨_,rfl⟩
        have HWS:=Lib.hid hws
        rw [hws] at hpl
        clear hpw hws
        go_wp2_with fail
        refine (HRW.out _).mono ?_
        rintro e w2 ⟨v,rfl,ho,hb⟩
        rw [HWS.out] at ho
        obtain ⟨av,cv,rfl⟩:=own_slice ho
        have hrow1:=row_below HOW.out hb
        have HW2:=Lib.hid (HWW.out.mono fun u m xs hu=>row_below hu hb)
        have HN2:=Lib.hid (HNX.out.trans (hb.mono HNX.out.size))
        have hsz2:w.heap.size≤w2.heap.size:=HN2.out.size
        have HO9:=Lib.hid (row_base ho HNX.out.size)
        have HR1:=Lib.hid hrow1
        clear ho hb hrow1
        go_wp2_with (at_builtin;refine wpList_append_own _ rfl _ _ 64 rfl w.heap.size 69 i0 (.agg #[.int .i64 0,.slice none 0 0]) 2 32 Tryz.underlying64 HI.out.1 HI.out.2.1 HI.out.2.2.1 HI.out.2.2.2 rfl (by decide) _ _ _ rfl (HR1.out.alloc _) ⟨w2.heap.size,0,none⟩ 1 1 [.int .i64 (n:Int),.slice av ws.length cv] rfl rfl (cell_two_new' _ _ _ _) (by intro u hu;simp at hu;rcases hu with rfl | rfl <;> rfl) (by unfold maxLen;omega) (by omega) (by simp;omega) ?_;intro v' w3 hown' hgrow _)
        have hK9:∀ (u:Value) (m:Nat) (xs:List Value),w2.ownsRow w.heap.size 9 1 u m xs→w3.ownsRow w.heap.size 9 1 u m xs:=fun u m xs hu =>
         (hu.alloc (.cells #[.int .i64 (n:Int),.slice av ws.length cv] 69)).kept hgrow (row_apart HR1.out hu (by decide))
        have HWF:Hid (WordsOwn w3 w.heap.size 9 (LV++[((n:Int),.slice av ws.length cv)]) (asB (out++numP [(n,P)]))):=Lib.hid (by
         rw [HP1.out,asB_append]
         have:asB [(n,wordsL P)]=[((n:Int),ws)]:=by simp [asB,HWS.out]
         rw [this]
         exact (HW2.out.mono hK9).snoc _ _ _ (hK9 _ _ _ HO9.out))
        have HOF:Hid (w3.ownsRow w.heap.size 69 2 v' (LV++[((n:Int),Value.slice av ws.length cv)]).length (flatL (LV++[((n:Int),Value.slice av ws.length cv)]))):=Lib.hid (by
         rw [flatL_snoc,List.length_append];exact hown')
        have HBF:=Lib.hid (below_grown (HN2.out.alloc hsz2 _) (by simp;omega) (HR1.out.alloc _) hgrow)
        clear hK9 hown' hgrow
        go_roundw
        case rel=>exact ⟨k2+1,k2+1,n+1,_,out++numP [(n,P)],by go_num,by go_num,by go_num,by rw [HSL.out];omega,by rw [HSL.out];omega,by omega,by rw [HP1.out];simp;omega,fun _=>⟨Nat.le_refl _,HNEW.out⟩,(fun h=>by rw [HSL.out] at h;omega),HOF.out,HWF.out,HBF.out⟩
        case measure=>simp [intOf];omega
      ·have HNEW:Hid (linesL s.data.toList=out++numP (enumL n (linesGo (pieceL s.data.toList (f,k2+1)) (s.data.toList.drop (k2+1))))):=Lib.hid (by
        rw [HL.out,hdr]
        have hc:s[k2]≠10:=fun e=>h10 (by rw [e];rfl)
        have hpc:pieceL s.data.toList (f,k2)++[s[k2]]=pieceL s.data.toList (f,k2+1):=by
         have:=pieceL_snoc s.data.toList f k2 hfk (by rw [HSL.out];exact hkl)
         rw [←this];rfl
        simp only [linesGo,if_neg hc]
        rw [hpc])
       have hb10:((s[k2].toNat:Int)==10)=false:=by rw [beq_eq_false_iff_ne];omega
       clear hdr hke h10
       go_wp2
       go_roundw
       case rel=>exact ⟨k2+1,f,n,LV,out,by go_num,rfl,rfl,by rw [HSL.out];omega,by rw [HSL.out];omega,by omega,by omega,fun _=>⟨by omega,HNEW.out⟩,(fun h=>by rw [HSL.out] at h;omega),HOW.out,HWW.out,HNX.out⟩
       case measure=>simp [intOf];omega
    ·have hke:k2=s.size+1:=by omega
     have HFIN:Hid (WordsOwn wr w.heap.size 9 LV RV):=Lib.hid (by
      rw [←HRV'.out,HEN.out hke]
      exact HWW.out)
     clear hke
     go_wp2
     go_ret2
     exact ⟨_,LV,by rw [HRE'.out];rfl,HOW.out,HFIN.out,HNX.out⟩
theorem rlines_had (s:ByteArray) (w:World) (hs:s.size≤30000) :
 Calls Tryz.prog 21 #[.string s] w (LinesHad w (asB (linV s.data.toList)) (linE s.data.toList)):=by
 have hl:=size_list s
 by_cases h:20000 < s.size
 ·obtain ⟨e1,e2⟩:=linE_big s.data.toList (by omega)
  rw [e1,e2]
  exact rlines_big s w h hs
 ·have h1:=rlines_small s w (by omega)
  cases ho:okL s.data.toList with
  | false =>
    obtain ⟨e1,e2⟩:=linE_bad s.data.toList (by omega) ho
    rw [e1,e2]
    rwa [ho] at h1
  | true =>
    obtain ⟨e1,e2⟩:=linE_ok s.data.toList (by omega) ho
    rw [e1,e2]
    rwa [ho] at h1
end Go.Proofs.YtdegffffcbhjbaaGreatDoor
end
section
namespace Go.Proofs.YtdegffffcbhjbaaGreatDoor.Un
open Go.RowKit
def HadAt (W:World) (B Bw:Nat) (v:Value) (L:List (Int × List ByteArray)):Prop :=
 ∃ LV,W.ownsRow B 69 2 v LV.length (flatL LV)∧WordsOwn W Bw 9 LV L
theorem HadAt.lines {W:World} {B Bw:Nat} {v:Value} {L:List (Int × List ByteArray)} (h:HadAt W B Bw v L):LinesV W v L:=by
 obtain ⟨LV,h1,h2⟩:=h
 exact lines_of_in h1 h2.isIn
theorem had_of {w:World} {L:List (Int × List ByteArray)} {c:Int} {e:Ending} {w':World} (h:LinesHad w L c e w'):∃ v,e=.returned (.tuple #[v,.int .i64 c])∧HadAt w' w.heap.size w.heap.size v L∧Below w.heap.size w w':=by
 obtain ⟨v,LV,he,h1,h2,hb⟩:=h
 exact ⟨v,he,⟨LV,h1,h2⟩,hb⟩
end Go.Proofs.YtdegffffcbhjbaaGreatDoor.Un
end
section
namespace Go.Proofs.YtdegffffcbhjbaaGreatDoor.Un
open Go.RowKit
theorem spec_plain {c:List Acct} {s:ByteArray} {k:Int} {a:Acct} (hf:findL c s=some a) (hr:rightA a=true):specA (findV (findL c s)) k=plainA c s k:=by
 unfold plainA findV
 rw [hf]
 have hc:=(find_mem hf).1
 simp only [Option.getD_some]
 obtain ⟨co,cl,ca,mu,fi,wo⟩:=a
 dsimp only at hc
 subst hc
 unfold specA
 rw [Bool.eq_iff_iff,decide_eq_true_eq]
 simp only [Bool.and_eq_true,decide_eq_true_eq,Bool.not_eq_true',Acct.mk.injEq,true_and]
 have hm:=marks_ways (right_parts hr).2.2
 dsimp only at hm
 constructor
 ·rintro ⟨⟨⟨h1,h2⟩,h3⟩,h4⟩
  have h5:fi=emp:=by
   by_cases e:fi=emp
   ·exact e
   ·rw [(neB_iff fi).2 e] at h4;cases h4
  refine ⟨h1,h2,h3,h5,?_⟩
  rcases hm with ⟨_,_,_,h⟩ | ⟨_,_,_,h,_⟩ | ⟨_,_,_,h,_⟩ | ⟨_,_,_,h,_⟩ | ⟨_,_,_,h,_⟩
  ·exact h
  ·exact h
  ·exact h
  ·rw [h] at h4;cases h4
  ·rw [h] at h4;cases h4
 ·rintro ⟨h1,h2,h3,h4,_⟩
  exact ⟨⟨⟨h1,h2⟩,h3⟩,by rw [h4];exact neB_empty⟩
theorem allD_eq {l:List (List ByteArray)} {M:Mast} (h:Inv l M):allD M=allE M:=by
 have hs:=h.sane
 have hri:=Fl.rise_codes hs.fl
 have e1:(codesD M).all (fun x=>(findL M.chart x.1).isSome)=rolesN M:=by
  simp only [codesD,rolesN,hasA,List.all_cons,List.all_nil,Bool.and_true]
  cases (findL M.chart M.res).isSome <;> cases (findL M.chart M.min).isSome <;> cases (findL M.chart M.dif).isSome <;> rfl
 have e2:M.lines.all (fun x=>(findL M.chart x.acc).isSome && (Fl.findF M.flows x.flow).isSome)=linesN M:=by
  unfold linesN
  congr 1
  funext x
  unfold lineN hasA
  rw [(isK_find hri x.flow).1]
 have e3:Fl.wholeTo M.flows 5=Fl.wholeF M.flows:=Fl.whole_eq (Fl.rise_ones hs.fl)
 unfold allD allE
 rw [e1,e2,e3]
 by_cases h1:M.cur=emp
 ·rw [if_pos h1,if_pos (by simp [h1])]
 ·rw [if_neg h1]
  cases hr:rolesN M with
  | false=>rw [if_pos rfl,if_pos (by simp)]
  | true =>
    rw [if_neg (by simp)]
    cases hl:linesN M with
    | false=>rw [if_pos rfl,if_pos (by simp)]
    | true =>
      have e4:(codesD M).all (fun x=>specA (findV (findL M.chart x.1)) x.2)=rolesP M:=by
       unfold rolesN hasA at hr
       simp only [Bool.and_eq_true] at hr
       obtain ⟨⟨⟨r1,r2⟩,r3⟩,r4⟩:=hr
       obtain ⟨a1,g1⟩:=Option.isSome_iff_exists.1 r1
       obtain ⟨a2,g2⟩:=Option.isSome_iff_exists.1 r2
       obtain ⟨a3,g3⟩:=Option.isSome_iff_exists.1 r3
       obtain ⟨a4,g4⟩:=Option.isSome_iff_exists.1 r4
       simp only [codesD,rolesP,List.all_cons,List.all_nil,Bool.and_true]
       rw [spec_plain g1 (h.right _ (find_mem g1).2),spec_plain g2 (h.right _ (find_mem g2).2),spec_plain g3 (h.right _ (find_mem g3).2),spec_plain g4 (h.right _ (find_mem g4).2)]
       cases plainA M.chart M.res 2 <;> cases plainA M.chart M.min 2 <;> cases plainA M.chart M.dif 0 <;> rfl
      rw [e4]
      simp [h1]
theorem wp_store_mast {P:Program} {o:Oper} {act:Act} {w:World} {K:Act→World→Prop} {Q:Exit→Act→World→Prop} (ty:TypeId) (x y:Operand) (ho:o.op=.store ty x y)
 (g:Nat) (c0 f0 e0 l0 c f e l:Value) (M0 M:Mast) (t:TypeId) (hx:act.eval x=.pointer (some ⟨g,0,none⟩)) (hy:act.eval y=aggM c f e l M) (hg:BoxM w g t c0 f0 e0 l0 M0) (h1:Ones c f e l) (hi:(P.info? ty).map (·.size)=some 9)
 (h:∀ w',BoxM w' g t c f e l M→w.grownBy w' (some g)→K (act.put o.dst undef) w'):o.wp P act w K Q :=
 wp_store_row ty x y ho g _ hx hy t _ hg hi rfl (by have hs:∀ s,(Value.string s).oneCell'=true:=fun _=>rfl;simp [h1.c,h1.f,h1.e,h1.l,hs]) (h _ (setRow_heap w g _ _ t _ hg) (grownBy_set w g _))
def OffM (gr gm:Nat) (c f e l:Value):Prop:=OffV (fun b=>b≠gm∧b≠gr) c∧OffV (fun b=>b≠gm∧b≠gr) f∧OffV (fun b=>b≠gm∧b≠gr) e∧OffV (fun b=>b≠gm∧b≠gr) l
structure DocAt (w0 wr:World) (gr gm:Nat) (c f e l:Value) (M:Mast):Prop where
 box:BoxM wr gm 36 c f e l M
 res:BoxM wr gr 36 nil4 nil4 nil4 nil4 zeroM
 mast:MastIn wr c f e l M
 off:OffM gr gm c f e l
 bel:Below w0.heap.size w0 wr
 lo:w0.heap.size≤gr∧w0.heap.size≤gm∧gr≠gm
theorem DocAt.below {w0 wr w':World} {gr gm:Nat} {c f e l:Value} {M:Mast} (h:DocAt w0 wr gr gm c f e l M) (hb:Below wr.heap.size wr w'):DocAt w0 w' gr gm c f e l M :=
 ⟨h.box.kept hb,h.res.kept hb,h.mast.keep hb,h.off,h.bel.trans (hb.mono h.bel.size),h.lo⟩
structure NextAt (w0 w3:World) (gr gm gn:Nat) (c f e l c' f' e' l':Value) (M M':Mast) (N:Int):Prop where
 box:BoxM w3 gm 36 c f e l M
 res:BoxM w3 gr 36 nil4 nil4 nil4 nil4 zeroM
 new:BoxM w3 gn 36 c' f' e' l' M'
 mast:N=0→MastIn w3 c' f' e' l' M'
 off:OffM gr gm c' f' e' l'
 ones:Ones c' f' e' l'
 bel:Below w0.heap.size w0 w3
 lo:w0.heap.size≤gr∧w0.heap.size≤gm∧gr≠gm
theorem off4_M {w:World} {gr gm:Nat} {c f e l c' f' e' l':Value} (h:Off4 w c f e l c' f' e' l') (ho:OffM gr gm c f e l) (hr:gr < w.heap.size) (hm:gm < w.heap.size):OffM gr gm c' f' e' l':=by
 have hp:∀ b,w.heap.size≤b→b≠gm∧b≠gr:=fun b hb=>⟨by omega,by omega⟩
 exact ⟨h.1 _ hp ho.1,h.2.1 _ hp ho.2.1,h.2.2.1 _ hp ho.2.2.1,h.2.2.2 _ hp ho.2.2.2⟩
theorem DocAt.call_box {w0 wr w1 w2 w3:World} {gr gm:Nat} {c f e l c' f' e' l':Value} {M M':Mast} {N:Int} (h:DocAt w0 wr gr gm c f e l M) (hb1:Below wr.heap.size wr w1) (hm:N=0→MastIn w2 c' f' e' l' M') (ho:Ones c' f' e' l') (hof:Off4 w1 c f e l c' f' e' l') (hb2:Below w1.heap.size w1 w2)
 (hn:BoxM w3 w2.heap.size 36 c' f' e' l' M') (hb3:Below w2.heap.size w2 w3):NextAt w0 w3 gr gm w2.heap.size c f e l c' f' e' l' M M' N:=by
 have h1:=((h.below hb1).below hb2).below hb3
 exact ⟨h1.box,h1.res,hn,fun h0=>(hm h0).keep hb3,off4_M hof h.off (h.res.kept hb1).lt (h.box.kept hb1).lt,ho,h1.bel,h.lo⟩
theorem DocAt.box_call {w0 wr w1 w2 w3:World} {gr gm g:Nat} {c f e l c' f' e' l':Value} {M M':Mast} {N:Int} (h:DocAt w0 wr gr gm c f e l M) (hg0:wr.heap.size≤g) (hg1:g < w1.heap.size) (hb1:Below wr.heap.size wr w1) (hm:N=0→MastIn w2 c' f' e' l' M') (ho:Ones c' f' e' l') (hof:Off4 w1 c f e l c' f' e' l') (hb2:Below w1.heap.size w1 w2)
 (hn:BoxM w3 g 36 c' f' e' l' M') (hg:w2.grownBy w3 (some g)):NextAt w0 w3 gr gm g c f e l c' f' e' l' M M' N:=by
 have h1:=(h.below hb1).below hb2
 have hgm:=h.box.lt
 have hgr:=h.res.lt
 have hP:=off_of_mast (P:=fun b=>b≠g) h.mast (fun b hb e0=>by omega)
 have hp:∀ b,w1.heap.size≤b→b≠g:=fun b hb e0=>by omega
 have k:∀ j,j < w2.heap.size→j≠g→w3.heap[j]?=w2.heap[j]?:=fun j hj hne=>hg.block j hj (fun e0=>hne (Option.some.inj e0))
 refine ⟨(k _ h1.box.lt (by omega)).trans h1.box,(k _ h1.res.lt (by omega)).trans h1.res,hn,fun h0=>?_,off4_M hof h.off (h.res.kept hb1).lt (h.box.kept hb1).lt,ho,?_,h.lo⟩
 ·exact mast_off (hm h0) (hof.1 _ hp hP.1) (hof.2.1 _ hp hP.2.1) (hof.2.2.1 _ hp hP.2.2.1) (hof.2.2.2 _ hp hP.2.2.2) (fun b hb hlt=>k b hlt hb)
 ·exact h1.bel.grown hg h1.bel.size (fun j hj=>by cases hj;have:=h.bel.size;omega)
theorem NextAt.stored {w0 w3 w4:World} {gr gm gn:Nat} {c f e l c' f' e' l':Value} {M M':Mast} {N:Int} (h:NextAt w0 w3 gr gm gn c f e l c' f' e' l' M M' N) (h0:N=0) (hb:BoxM w4 gm 36 c' f' e' l' M') (hg:w3.grownBy w4 (some gm)):DocAt w0 w4 gr gm c' f' e' l' M':=by
 have k:∀ j,j < w3.heap.size→j≠gm→w4.heap[j]?=w3.heap[j]?:=fun j hj hne=>hg.block j hj (fun e0=>hne (Option.some.inj e0))
 refine ⟨hb,(k _ h.res.lt h.lo.2.2).trans h.res,?_,h.off,?_,h.lo⟩
 ·exact mast_off (h.mast h0) h.off.1 h.off.2.1 h.off.2.2.1 h.off.2.2.2 (fun b hb hlt=>k b hlt hb.1)
 ·exact h.bel.grown hg h.bel.size (fun j hj=>by cases hj;exact h.lo.2.1)
theorem DocAt.result {w0 w3 w4:World} {gr gm:Nat} {c f e l:Value} {M:Mast} (h:DocAt w0 w3 gr gm c f e l M) (hg:w3.grownBy w4 (some gr)):MastIn w4 c f e l M∧Below w0.heap.size w0 w4:=by
 have k:∀ j,j < w3.heap.size→j≠gr→w4.heap[j]?=w3.heap[j]?:=fun j hj hne=>hg.block j hj (fun e0=>hne (Option.some.inj e0))
 exact ⟨mast_off h.mast h.off.1 h.off.2.1 h.off.2.2.1 h.off.2.2.2 (fun b hb hlt=>k b hlt hb.2),h.bel.grown hg h.bel.size (fun j hj=>by cases hj;exact h.lo.1)⟩
set_option maxRecDepth 100000 in
set_option maxHeartbeats 16000000 in
theorem rparseU_any (s:ByteArray) (w:World) (hs:s.size≤30000) :
 Calls Tryz.prog 28 #[.string s] w (MastTold w (parseM s).1 (parseM s).2):=by
 have hb0:=(Below.refl w.heap.size w).alloc (Nat.le_refl _) (.cells #[.slice none 0 0,.slice none 0 0,.slice none 0 0,.slice none 0 0,.string ⟨#[]⟩,.string ⟨#[]⟩,.string ⟨#[]⟩,.string ⟨#[]⟩,.string ⟨#[]⟩] 36)
 have hx0:BoxM (w.alloc (.cells #[.slice none 0 0,.slice none 0 0,.slice none 0 0,.slice none 0 0,.string ⟨#[]⟩,.string ⟨#[]⟩,.string ⟨#[]⟩,.string ⟨#[]⟩,.string ⟨#[]⟩] 36)) w.heap.size 36 nil4 nil4 nil4 nil4 zeroM:=heap_alloc_new w _
 obtain ⟨W0,hW0⟩:∃ W0,w.alloc (.cells #[.slice none 0 0,.slice none 0 0,.slice none 0 0,.slice none 0 0,.string ⟨#[]⟩,.string ⟨#[]⟩,.string ⟨#[]⟩,.string ⟨#[]⟩,.string ⟨#[]⟩] 36)=W0:=⟨_,rfl⟩
 rw [hW0] at hb0 hx0
 have HB0:=Lib.hid hb0
 have HX0:=Lib.hid hx0
 have HLN:=Lib.hid (fun W=>rlines_had s W hs)
 have HWP:=Lib.hid (words_pos s)
 have hpm:parseM s=if linE s.data.toList=0 then linesM (wordsT s) else (zeroM,linE s.data.toList):=rfl
 have hinv:∀ M,runM zeroM (wordsT s)=(M,0)→allD M=allE M:=fun M h=>allD_eq (run_zero_of h)
 obtain ⟨L,hL⟩:∃ L,asB (linV s.data.toList)=L:=⟨_,rfl⟩
 have hWT:wordsT s=L.map (·.2):=by unfold wordsT;rw [hL]
 rw [hWT] at hpm HWP hinv
 have HINV:=Lib.hid hinv
 have hLL:L.length≤30001:=by
  rw [←hL,asB_length]
  unfold linV
  split
  ·simp
  ·split
   ·unfold linesL
    have h1:=numP_length (enumL 1 (linesGo [] s.data.toList))
    rw [enumL_length] at h1
    have h2:=linesGo_length [] s.data.toList
    rw [size_list] at h2
    omega
   ·simp
 obtain ⟨e0,he0⟩:∃ e0,linE s.data.toList=e0:=⟨_,rfl⟩
 rw [he0] at hpm HLN
 rw [hL] at HLN
 obtain ⟨PM,hPM⟩:∃ PM,(parseM s).1=PM:=⟨_,rfl⟩
 obtain ⟨PE,hPE⟩:∃ PE,(parseM s).2=PE:=⟨_,rfl⟩
 rw [hPM,hPE]
 have HPR:Hid ((PM,PE)=if e0=0 then linesM (L.map (·.2)) else (zeroM,e0)):=Lib.hid (by rw [←hpm,←hPM,←hPE])
 clear hpm hL hWT he0 hPM hPE hb0 hx0 hinv hs
 go_enter Tryz.func28,Tryz.ntmps28
 go_wp2_with fail
 refine (HLN.out _).mono ?_
 intro en w2 hlh
 obtain ⟨v2,rfl,hh2,hb2⟩:=had_of hlh
 have HX2:=Lib.hid (HX0.out.kept hb2)
 have HB2:=Lib.hid (HB0.out.trans (hb2.mono HB0.out.size))
 obtain ⟨p,cp,e2,hm2,hc2⟩:=hh2.lines
 subst e2
 have HC:=Lib.hid hc2
 obtain ⟨n,hn⟩:∃ n,L.length=n:=⟨_,rfl⟩
 rw [hn] at hLL hm2 ⊢
 have HN:=Lib.hid hn
 clear hlh hh2 hb2 hc2 hn hW0 HLN
 by_cases h0:e0=0
 ·subst h0
  have HPR2:Hid ((PM,PE)=linesM (L.map (·.2))):=Lib.hid (by rw [HPR.out,if_pos rfl])
  clear HPR
  have hb3:=(Below.refl w2.heap.size w2).alloc (Nat.le_refl _) (.cells #[.slice none 0 0,.slice none 0 0,.slice none 0 0,.slice none 0 0,.string ⟨#[]⟩,.string ⟨#[]⟩,.string ⟨#[]⟩,.string ⟨#[]⟩,.string ⟨#[]⟩] 36)
  have hx3:BoxM (w2.alloc (.cells #[.slice none 0 0,.slice none 0 0,.slice none 0 0,.slice none 0 0,.string ⟨#[]⟩,.string ⟨#[]⟩,.string ⟨#[]⟩,.string ⟨#[]⟩,.string ⟨#[]⟩] 36)) w2.heap.size 36 nil4 nil4 nil4 nil4 zeroM:=heap_alloc_new w2 _
  have hoff:OffV (fun b=>b≠w2.heap.size∧b≠w.heap.size) nil4:=fun _ _ _ e=>by cases e
  have HST:Hid (∃ c f e k M,DocAt w (w2.alloc (.cells #[.slice none 0 0,.slice none 0 0,.slice none 0 0,.slice none 0 0,.string ⟨#[]⟩,.string ⟨#[]⟩,.string ⟨#[]⟩,.string ⟨#[]⟩,.string ⟨#[]⟩] 36)) w.heap.size w2.heap.size c f e k M∧Sane M∧runM zeroM (L.map (·.2))=runM M ((L.map (·.2)).drop 0)) :=
   Lib.hid ⟨nil4,nil4,nil4,nil4,zeroM,⟨hx3,HX2.out.kept hb3,MastIn.zero _,⟨hoff,hoff,hoff,hoff⟩,HB2.out.trans (hb3.mono HB2.out.size),⟨Nat.le_refl _,HB2.out.size,by have:=HX2.out.lt;omega⟩⟩,Sane.zero,rfl⟩
  have HBL:Hid (Below w2.heap.size w2 (w2.alloc (.cells #[.slice none 0 0,.slice none 0 0,.slice none 0 0,.slice none 0 0,.string ⟨#[]⟩,.string ⟨#[]⟩,.string ⟨#[]⟩,.string ⟨#[]⟩,.string ⟨#[]⟩] 36))):=Lib.hid hb3
  clear hb3 hx3 hoff
  go_wp2
  go_loopw [7] (fun s7 wr=>∃ i:Nat,i≤n∧s7=.int .i64 (i:Int)∧Hid (∃ c f e k M,DocAt w wr w.heap.size w2.heap.size c f e k M∧Sane M∧runM zeroM (L.map (·.2))=runM M ((L.map (·.2)).drop i))∧Hid (Below w2.heap.size w2 wr)) (fun s7 _=>n - (intOf s7).toNat)
  case atStart=>exact ⟨0,Nat.zero_le _,rfl,HST,HBL⟩
  case round =>
   obtain ⟨i,hi,rfl,HPA,HBR⟩:=hrel
   obtain ⟨c,f,e,k,M,hd,hsn,hru⟩:=HPA.out
   have HD0:=Lib.hid hd
   have HSN:=Lib.hid hsn
   have HRU:=Lib.hid hru
   clear hd hsn hru HPA HST HBL
   by_cases hlt:i < n
   ·obtain ⟨⟨ln,ws⟩,hx⟩:∃ x,L[i]?=some x:=⟨_,List.getElem?_eq_getElem (by rw [HN.out];exact hlt)⟩
    obtain ⟨b,o,u,rfl,d0,d1,hu⟩:=HC.out i _ hx
    dsimp only at d0 d1 hu
    have hwx:(L.map (·.2))[i]?=some ws:=by rw [List.getElem?_map,hx];rfl
    have HWX:=Lib.hid hwx
    have HW0:=Lib.hid (HWP.out ws (List.mem_of_getElem? hwx))
    have HU:=Lib.hid (hu.keep HBR.out)
    obtain ⟨pu,cu,eu,_⟩:=hu
    subst eu
    have y1:=cell_later HBR.out d1
    obtain ⟨nw,hnw⟩:∃ nw,ws.length=nw:=⟨_,rfl⟩
    rw [hnw] at y1 HU
    obtain ⟨k0,k1,k2,k3,k4,k5,k6,k7,k8⟩:=HD0.out.box.nine
    have r0:=fun p:Past wr=>cell_past k0 p
    have r1:=fun p:Past wr=>cell_past k1 p
    have r2:=fun p:Past wr=>cell_past k2 p
    have r3:=fun p:Past wr=>cell_past k3 p
    have r4:=fun p:Past wr=>cell_past k4 p
    have r5:=fun p:Past wr=>cell_past k5 p
    have r6:=fun p:Past wr=>cell_past k6 p
    have r7:=fun p:Past wr=>cell_past k7 p
    have r8:=fun p:Past wr=>cell_past k8 p
    have r9:=fun p:Past wr=>cell_past y1 p
    have HRC:=Lib.hid (fun W (hW:Below wr.heap.size wr W)=>rone_any (.slice pu nw cu) c f e k ws M W (HD0.out.mast.keep hW) HSN.out (HU.out.keep hW) HW0.out)
    obtain ⟨N,hN⟩:∃ N,stepE M ws=N:=⟨_,rfl⟩
    unfold OneTold at HRC
    rw [hN] at HRC
    have HNE:=Lib.hid hN
    clear hx hwx d0 d1 hnw y1 k0 k1 k2 k3 k4 k5 k6 k7 k8 hN
    go_wp2_with fail
    refine wp_region_plan (.two [0,1,2,3,4,5] 6 (.one [7,8,9] 10 (.one [] 11 (.last [12]))) 10 (.one [] 6 (.one [7,8,9] 11 (.last [12])))) (by kernel_rfl) (by kernel_rfl) (fun d _ _ _ _ h=>by cases d <;> exact h) ?_
    obtain ⟨wq,hwq⟩:∃ wq,wr.drew=wq:=⟨_,rfl⟩
    rw [hwq]
    have HD:Hid (Below wr.heap.size wr wq):=Lib.hid (by rw [←hwq];exact ⟨rfl,rfl,rfl,Nat.le_refl _,fun _ _=>rfl⟩)
    clear hwq
    simp only [wpPlan,pick,nth]
    repeat (go_big_quiet_step (fail))
    refine wpQuiet_nil ?_
    clear r0 r1 r2 r3 r4 r5 r6 r7 r8 r9
    refine ⟨?_,?_⟩
    ·intro K hK
     refine alone_want (by kernel_rfl) ?_
     go_big_op
     refine (HRC.out wq HD.out).mono ?_
     rintro en w3 ⟨c',f',e',k',M',rfl,hz,ho,hof,hb3⟩
     have HP3:=Lib.hid (HD.out.trans (hb3.mono HD.out.size))
     have HZ:Hid (N=0→M'=stepV M ws):=Lib.hid (fun h0=>(hz h0).1)
     have HZM:Hid (N=0→MastIn w3 c' f' e' k' M'):=Lib.hid (fun h0=>(hz h0).2)
     have HO:=Lib.hid ho
     have HOF:=Lib.hid hof
     have HB3:=Lib.hid hb3
     clear hz ho hof hb3
     refine hK _ _ (past_in HP3.out) ?_
     clear hK K
     repeat (go_big_quiet_step (fail))
     refine wpQuiet_nil ?_
     intro K hK
     refine alone_want (by kernel_rfl) ?_
     go_big_op
     have HA4:=Lib.hid ((Below.refl w3.heap.size w3).alloc (Nat.le_refl _) (.cells #[.slice none 0 0,.slice none 0 0,.slice none 0 0,.slice none 0 0,.string ⟨#[]⟩,.string ⟨#[]⟩,.string ⟨#[]⟩,.string ⟨#[]⟩,.string ⟨#[]⟩] 36))
     have HP4:=Lib.hid (HP3.out.trans (HA4.out.mono HP3.out.size))
     have hx4:BoxM (w3.alloc (.cells #[.slice none 0 0,.slice none 0 0,.slice none 0 0,.slice none 0 0,.string ⟨#[]⟩,.string ⟨#[]⟩,.string ⟨#[]⟩,.string ⟨#[]⟩,.string ⟨#[]⟩] 36)) w3.heap.size 36 nil4 nil4 nil4 nil4 zeroM:=heap_alloc_new w3 _
     refine hK _ _ (past_in HP4.out) ?_
     clear hK K
     refine wpQuiet_nil ?_
     intro K hK
     refine alone_want (by kernel_rfl) ?_
     refine wp_store_mast 36 (.tmp 8) (.tmp 34) rfl w3.heap.size nil4 nil4 nil4 nil4 c' f' e' k' zeroM M' 36 rfl rfl hx4 HO.out (by kernel_rfl) ?_
     intro w5 hb5 hg5
     have HG5:=Lib.hid (HA4.out.grown hg5 HA4.out.size (fun j hj=>by cases hj;exact Nat.le_refl _))
     have HNX:=Lib.hid (HD0.out.call_box HD.out HZM.out HO.out HOF.out HB3.out hb5 HG5.out)
     have HP5:=Lib.hid (HP3.out.trans (HG5.out.mono HP3.out.size))
     have HBN:=Lib.hid (HBR.out.trans (HP5.out.mono HBR.out.size))
     clear hb5 hg5 hx4
     refine hK _ _ (past_in HP5.out) ?_
     clear hK K
     simp only [Act.put]
     repeat (go_big_quiet_step (fail))
     refine wpQuiet_nil ?_
     have HDR:Hid ((L.map (·.2)).drop i=ws::(L.map (·.2)).drop (i+1)):=Lib.hid (by
      have hlt':=(List.getElem?_eq_some_iff.1 HWX.out).1
      rw [List.drop_eq_getElem_cons hlt',(List.getElem?_eq_some_iff.1 HWX.out).2])
     by_cases hN0:N=0
     ·subst hN0
      obtain ⟨z0,z1,z2,z3,z4,z5,z6,z7,z8⟩:=HNX.out.new.nine
      go_wp2_with (refine wpList_store_mast rfl 36 (.tmp 6) (.tmp 40) rfl w2.heap.size c f e k c' f' e' k' M M' 36 rfl rfl HNX.out.box HNX.out.ones (by kernel_rfl) ?_;intro w6 hb6 hg6;have HDN:=Lib.hid (HNX.out.stored rfl hb6 hg6);have HBW:=Lib.hid (HBN.out.grown hg6 HBN.out.size (fun j hj=>by cases hj;exact Nat.le_refl _));clear hb6 hg6 z0 z1 z2 z3 z4 z5 z6 z7 z8)
      have HNN:Hid (∃ c f e k M,DocAt w w6 w.heap.size w2.heap.size c f e k M∧Sane M∧runM zeroM (L.map (·.2))=runM M ((L.map (·.2)).drop (i+1))):=Lib.hid (by
       have hst:M'=stepV M ws:=HZ.out rfl
       refine ⟨_,_,_,_,_,HDN.out,?_,?_⟩
       ·rw [hst];exact HSN.out.step HNE.out
       ·rw [HRU.out,HDR.out,runM_cons _ _ _ HNE.out,hst])
      go_roundw
      case rel=>exact ⟨i+1,by omega,by go_num,HNN,HBW⟩
      case measure=>simp [intOf];omega
     ·have HPF:Hid (PM=zeroM∧PE=N):=Lib.hid (by
       have h1:=HPR2.out
       unfold linesM at h1
       rw [HRU.out,HDR.out,runM_stop _ _ _ (by rw [HNE.out];exact hN0),endM_stop _ (by rw [HNE.out];exact hN0),HNE.out] at h1
       exact Prod.mk.inj h1)
      have hNz:(N != 0)=true:=by simp [hN0]
      go_wp2_with (refine wpList_store_mast rfl 36 (.tmp 2) (.tmp 38) rfl w.heap.size nil4 nil4 nil4 nil4 nil4 nil4 nil4 nil4 zeroM zeroM 36 rfl rfl HNX.out.res ones_nil (by kernel_rfl) ?_;intro w6 hb6 hg6)
      have HBG:=Lib.hid (HNX.out.bel.grown hg6 HNX.out.bel.size (fun j hj=>by cases hj;exact Nat.le_refl _))
      obtain ⟨c0,c1,c2,c3,c4,c5,c6,c7,c8⟩:=hb6.nine
      have HZZ:=Lib.hid (MastIn.zero w6)
      clear hb6 hg6
      refine bodyPost_ret (v:=.tuple #[aggM nil4 nil4 nil4 nil4 zeroM,.int .i64 N]) (by simp [results,Tryz.results28,go_sem,c0,c1,c2,c3,c4,c5,c6,c7,c8]) rfl ⟨_,by rw [HPF.out.2],?_,HBG.out⟩
      rw [HPF.out.1]
      exact ⟨_,_,_,_,rfl,HZZ.out⟩
    ·intro K hK
     refine alone_want (by kernel_rfl) ?_
     go_big_op
     have HA2:=Lib.hid (HD.out.alloc HD.out.size (.cells #[.slice none 0 0,.slice none 0 0,.slice none 0 0,.slice none 0 0,.string ⟨#[]⟩,.string ⟨#[]⟩,.string ⟨#[]⟩,.string ⟨#[]⟩,.string ⟨#[]⟩] 36))
     have hx2:BoxM (wq.alloc (.cells #[.slice none 0 0,.slice none 0 0,.slice none 0 0,.slice none 0 0,.string ⟨#[]⟩,.string ⟨#[]⟩,.string ⟨#[]⟩,.string ⟨#[]⟩,.string ⟨#[]⟩] 36)) wq.heap.size 36 nil4 nil4 nil4 nil4 zeroM:=heap_alloc_new wq _
     have HX4:=Lib.hid hx2
     have HQ1:Hid (wr.heap.size≤wq.heap.size):=Lib.hid HD.out.size
     refine hK _ _ (past_in HA2.out) ?_
     clear hK K hx2
     refine wpQuiet_nil ?_
     intro K hK
     refine alone_want (by kernel_rfl) ?_
     go_big_op
     refine (HRC.out _ HA2.out).mono ?_
     rintro en w3 ⟨c',f',e',k',M',rfl,hz,ho,hof,hb3⟩
     have HP3:=Lib.hid (HA2.out.trans (hb3.mono HA2.out.size))
     have HZ:Hid (N=0→M'=stepV M ws):=Lib.hid (fun h0=>(hz h0).1)
     have HZM:Hid (N=0→MastIn w3 c' f' e' k' M'):=Lib.hid (fun h0=>(hz h0).2)
     have HO:=Lib.hid ho
     have HOF:=Lib.hid hof
     have HB3:=Lib.hid hb3
     have HX5:=Lib.hid (HX4.out.kept hb3)
     clear hz ho hof hb3
     refine hK _ _ (past_in HP3.out) ?_
     clear hK K
     repeat (go_big_quiet_step (fail))
     refine wpQuiet_nil ?_
     intro K hK
     refine alone_want (by kernel_rfl) ?_
     refine wp_store_mast 36 (.tmp 8) (.tmp 34) rfl wq.heap.size nil4 nil4 nil4 nil4 c' f' e' k' zeroM M' 36 rfl rfl HX5.out HO.out (by kernel_rfl) ?_
     intro w5 hb5 hg5
     have HNX:=Lib.hid (HD0.out.box_call HQ1.out HX4.out.lt HA2.out HZM.out HO.out HOF.out HB3.out hb5 hg5)
     have HP5:=Lib.hid (HP3.out.grown hg5 HP3.out.size (fun j hj=>by cases hj;exact HQ1.out))
     have HBN:=Lib.hid (HBR.out.trans (HP5.out.mono HBR.out.size))
     clear hb5 hg5
     refine hK _ _ (past_in HP5.out) ?_
     clear hK K
     simp only [Act.put]
     repeat (go_big_quiet_step (fail))
     refine wpQuiet_nil ?_
     have HDR:Hid ((L.map (·.2)).drop i=ws::(L.map (·.2)).drop (i+1)):=Lib.hid (by
      have hlt':=(List.getElem?_eq_some_iff.1 HWX.out).1
      rw [List.drop_eq_getElem_cons hlt',(List.getElem?_eq_some_iff.1 HWX.out).2])
     by_cases hN0:N=0
     ·subst hN0
      obtain ⟨z0,z1,z2,z3,z4,z5,z6,z7,z8⟩:=HNX.out.new.nine
      go_wp2_with (refine wpList_store_mast rfl 36 (.tmp 6) (.tmp 40) rfl w2.heap.size c f e k c' f' e' k' M M' 36 rfl rfl HNX.out.box HNX.out.ones (by kernel_rfl) ?_;intro w6 hb6 hg6;have HDN:=Lib.hid (HNX.out.stored rfl hb6 hg6);have HBW:=Lib.hid (HBN.out.grown hg6 HBN.out.size (fun j hj=>by cases hj;exact Nat.le_refl _));clear hb6 hg6 z0 z1 z2 z3 z4 z5 z6 z7 z8)
      have HNN:Hid (∃ c f e k M,DocAt w w6 w.heap.size w2.heap.size c f e k M∧Sane M∧runM zeroM (L.map (·.2))=runM M ((L.map (·.2)).drop (i+1))):=Lib.hid (by
       have hst:M'=stepV M ws:=HZ.out rfl
       refine ⟨_,_,_,_,_,HDN.out,?_,?_⟩
       ·rw [hst];exact HSN.out.step HNE.out
       ·rw [HRU.out,HDR.out,runM_cons _ _ _ HNE.out,hst])
      go_roundw
      case rel=>exact ⟨i+1,by omega,by go_num,HNN,HBW⟩
      case measure=>simp [intOf];omega
     ·have HPF:Hid (PM=zeroM∧PE=N):=Lib.hid (by
       have h1:=HPR2.out
       unfold linesM at h1
       rw [HRU.out,HDR.out,runM_stop _ _ _ (by rw [HNE.out];exact hN0),endM_stop _ (by rw [HNE.out];exact hN0),HNE.out] at h1
       exact Prod.mk.inj h1)
      have hNz:(N != 0)=true:=by simp [hN0]
      go_wp2_with (refine wpList_store_mast rfl 36 (.tmp 2) (.tmp 38) rfl w.heap.size nil4 nil4 nil4 nil4 nil4 nil4 nil4 nil4 zeroM zeroM 36 rfl rfl HNX.out.res ones_nil (by kernel_rfl) ?_;intro w6 hb6 hg6)
      have HBG:=Lib.hid (HNX.out.bel.grown hg6 HNX.out.bel.size (fun j hj=>by cases hj;exact Nat.le_refl _))
      obtain ⟨c0,c1,c2,c3,c4,c5,c6,c7,c8⟩:=hb6.nine
      have HZZ:=Lib.hid (MastIn.zero w6)
      clear hb6 hg6
      refine bodyPost_ret (v:=.tuple #[aggM nil4 nil4 nil4 nil4 zeroM,.int .i64 N]) (by simp [results,Tryz.results28,go_sem,c0,c1,c2,c3,c4,c5,c6,c7,c8]) rfl ⟨_,by rw [HPF.out.2],?_,HBG.out⟩
      rw [HPF.out.1]
      exact ⟨_,_,_,_,rfl,HZZ.out⟩
   ·have HRN:Hid (runM zeroM (L.map (·.2))=(M,0)):=Lib.hid (by
     rw [HRU.out,List.drop_eq_nil_of_le (by rw [List.length_map,HN.out];omega)];rfl)
    have HPF:Hid ((PM,PE)=endM (M,0)):=Lib.hid (by rw [HPR2.out];unfold linesM;rw [HRN.out])
    have HCK:=Lib.hid (rall_any c f e k M wr HD0.out.mast (by have:=HSN.out.lf;omega))
    rw [HINV.out M HRN.out] at HCK
    obtain ⟨A,hA⟩:∃ A,allE M=A:=⟨_,rfl⟩
    rw [hA] at HCK
    have HA:=Lib.hid hA
    obtain ⟨c0,c1,c2,c3,c4,c5,c6,c7,c8⟩:=HD0.out.box.nine
    have HO:=Lib.hid (ones_of HD0.out.mast)
    clear hA
    go_wp2_with fail
    clear c0 c1 c2 c3 c4 c5 c6 c7 c8
    refine HCK.out.mono ?_
    rintro en w3 ⟨rfl,hb3⟩
    have HD3:=Lib.hid (HD0.out.below hb3)
    clear hb3
    by_cases hA0:A=0
    ·subst hA0
     have HPG:Hid (PM=M∧PE=0):=Lib.hid (by
      have h1:=HPF.out
      rw [endM_ok _ HA.out] at h1
      exact Prod.mk.inj h1)
     obtain ⟨c0,c1,c2,c3,c4,c5,c6,c7,c8⟩:=HD3.out.box.nine
     go_wp2_with (refine wpList_store_mast rfl 36 (.tmp 2) (.tmp 47) rfl w.heap.size nil4 nil4 nil4 nil4 c f e k zeroM M 36 rfl rfl HD3.out.res HO.out (by kernel_rfl) ?_;intro w4 hb4 hg4)
     clear c0 c1 c2 c3 c4 c5 c6 c7 c8
     have HRS:=Lib.hid (HD3.out.result hg4)
     obtain ⟨c0,c1,c2,c3,c4,c5,c6,c7,c8⟩:=hb4.nine
     clear hb4 hg4
     refine bodyPost_ret (v:=.tuple #[aggM c f e k M,.int .i64 0]) (by simp [results,Tryz.results28,go_sem,c0,c1,c2,c3,c4,c5,c6,c7,c8]) rfl ⟨_,by rw [HPG.out.2],?_,HRS.out.2⟩
     rw [HPG.out.1]
     exact ⟨_,_,_,_,rfl,HRS.out.1⟩
    ·have HPG:Hid (PM=zeroM∧PE=A):=Lib.hid (by
      have h1:=HPF.out
      rw [endM_no _ (by rw [HA.out];exact hA0),HA.out] at h1
      exact Prod.mk.inj h1)
     have hAz:(A != 0)=true:=by simp [hA0]
     go_wp2_with (refine wpList_store_mast rfl 36 (.tmp 2) (.tmp 45) rfl w.heap.size nil4 nil4 nil4 nil4 nil4 nil4 nil4 nil4 zeroM zeroM 36 rfl rfl HD3.out.res ones_nil (by kernel_rfl) ?_;intro w4 hb4 hg4)
     have HRS:=Lib.hid (HD3.out.result hg4)
     obtain ⟨c0,c1,c2,c3,c4,c5,c6,c7,c8⟩:=hb4.nine
     have HZ:=Lib.hid (MastIn.zero w4)
     clear hb4 hg4
     refine bodyPost_ret (v:=.tuple #[aggM nil4 nil4 nil4 nil4 zeroM,.int .i64 A]) (by simp [results,Tryz.results28,go_sem,c0,c1,c2,c3,c4,c5,c6,c7,c8]) rfl ⟨_,by rw [HPG.out.2],?_,HRS.out.2⟩
     rw [HPG.out.1]
     exact ⟨_,_,_,_,rfl,HZ.out⟩
 ·have HPF:Hid (PM=zeroM∧PE=e0):=Lib.hid (by
   have h1:=HPR.out
   rw [if_neg h0] at h1
   exact Prod.mk.inj h1)
  have h0z:(e0 != 0)=true:=by simp [h0]
  go_wp2_with (refine wpList_store_mast rfl 36 (.tmp 2) (.tmp 18) rfl w.heap.size nil4 nil4 nil4 nil4 nil4 nil4 nil4 nil4 zeroM zeroM 36 rfl rfl HX2.out ones_nil (by kernel_rfl) ?_;intro w4 hb4 hg4)
  have HBG:=Lib.hid (HB2.out.grown hg4 HB2.out.size (fun j hj=>by cases hj;exact Nat.le_refl _))
  obtain ⟨c0,c1,c2,c3,c4,c5,c6,c7,c8⟩:=hb4.nine
  have HZ:=Lib.hid (MastIn.zero w4)
  clear hb4 hg4
  refine bodyPost_ret (v:=.tuple #[aggM nil4 nil4 nil4 nil4 zeroM,.int .i64 e0]) (by simp [results,Tryz.results28,go_sem,c0,c1,c2,c3,c4,c5,c6,c7,c8]) rfl ⟨_,by rw [HPF.out.2],?_,HBG.out⟩
  rw [HPF.out.1]
  exact ⟨_,_,_,_,rfl,HZ.out⟩
end Go.Proofs.YtdegffffcbhjbaaGreatDoor.Un
end
section
namespace Go.Proofs.YtdegffffcbhjbaaGreatDoor.Pk
open Go.RowKit Go.Maps Go.Proofs.YtdegffffcbhjbaaGreatDoor.Un
structure Solid (M:Mast):Prop where
 ch:∀ x∈M.chart,x.code≠emp
 fl:∀ x∈M.flows,x.code≠emp
 en:∀ x∈M.ents,x.code≠emp
 li:∀ x∈M.lines,x.acc≠emp
theorem Solid.zero:Solid zeroM:=⟨fun _ h=>(by cases h),fun _ h=>(by cases h),fun _ h=>(by cases h),fun _ h=>(by cases h)⟩
theorem ent_named {l:List (List ByteArray)} {M:Mast} (h:Inv l M):∀ x∈M.ents,nmB x.code=true:=fun x hx=>by
 have hm:=(h.ents.mem_iff).1 hx
 obtain ⟨ws,_,e⟩:=List.mem_filterMap.1 hm
 unfold enO at e
 split at e
 ·rename_i hh
  cases e
  rcases formed_ways hh.2 with ⟨_,a,b,rfl,ha,_⟩ | ⟨h0,_⟩ | ⟨h0,_⟩
  ·exact ha
  ·rw [hh.1] at h0;exact absurd h0 (by decide)
  ·rw [hh.1] at h0;exact absurd h0 (by decide)
 ·cases e
theorem solid_of {s:ByteArray} {M:Mast} (h:RightOf s M):Solid M where
 ch x hx:=nm_ne (right_parts (h.inv.right x hx)).1
 fl x hx:=nm_ne (Fl.right_parts (h.inv.rightF x hx)).1
 en x hx:=nm_ne (ent_named h.inv x hx)
 li x hx e:=by
  obtain ⟨_,_,hl,_⟩:=allE_parts h.all
  have h1:=List.all_eq_true.1 hl x hx
  unfold lineN at h1
  rw [Bool.and_eq_true,e,h.inv.no_emp] at h1
  cases h1.1
theorem solid_parse (s:ByteArray):Solid (parseM s).1:=by
 rcases parse_ways s with ⟨M,h1,h2,h3,h4,h5⟩ | ⟨h1,_⟩
 ·rw [h4];exact solid_of (s:=s) ⟨h1,h2,h3,h5⟩
 ·rw [h1];exact Solid.zero
theorem off_zero {α:Type} {E:Enc α} {W:World} {g:Nat} {t:TypeId} {v:Value} {L:List α} (hb:BoxM W g t nil4 nil4 nil4 nil4 zeroM) (h:ElsV E W v L) (hf:∀ x∈L,∃ s:ByteArray,s≠emp∧(E.cs x)[0]?=some (.string s)):OffV (fun b=>b≠g) v:=fun ad n c e hn=>by
 obtain ⟨p,c',ev,_,_,_,hc⟩:=h
 rw [ev] at e
 cases e
 obtain ⟨x,hx⟩:∃ x,L[0]?=some x:=⟨_,List.getElem?_eq_getElem hn⟩
 obtain ⟨b,o,e1,hat⟩:=hc 0 x hx
 cases e1
 obtain ⟨s,hs,hs0⟩:=hf x (List.mem_of_getElem? hx)
 have hcell:=hat 0 _ hs0
 intro hbg
 have hbg':b=g:=hbg
 subst hbg'
 have hcr:=cell_of_row W b (o+0 * E.k+0) _ _ (0,0) hb
 rw [hcell] at hcr
 generalize o+0 * E.k+0=i at hcr
 match i with
 | 0=>cases hcr
 | 1=>cases hcr
 | 2=>cases hcr
 | 3=>cases hcr
 | 4=>cases hcr;exact hs rfl
 | 5=>cases hcr;exact hs rfl
 | 6=>cases hcr;exact hs rfl
 | 7=>cases hcr;exact hs rfl
 | 8=>cases hcr;exact hs rfl
 | j+9=>cases hcr
theorem mast_zero {W:World} {g:Nat} {t:TypeId} {c f e l:Value} {M:Mast} (hb:BoxM W g t nil4 nil4 nil4 nil4 zeroM) (h:MastIn W c f e l M) (hs:Solid M):OffV (fun b=>b≠g) c∧OffV (fun b=>b≠g) f∧OffV (fun b=>b≠g) e∧OffV (fun b=>b≠g) l :=
 ⟨off_zero hb (chart_els.1 h.chart) fun x hx=>⟨_,hs.ch x hx,rfl⟩,off_zero hb h.flows fun x hx=>⟨_,hs.fl x hx,rfl⟩,off_zero hb h.ents fun x hx=>⟨_,hs.en x hx,rfl⟩,off_zero hb h.lines fun x hx=>⟨_,hs.li x hx,rfl⟩⟩
theorem mast_two {W W':World} {g1 g2:Nat} {t1 t2:TypeId} {c f e l:Value} {M:Mast} (hb1:BoxM W g1 t1 nil4 nil4 nil4 nil4 zeroM) (hb2:BoxM W g2 t2 nil4 nil4 nil4 nil4 zeroM) (h:MastIn W c f e l M) (hs:Solid M)
 (hk:∀ b,b≠g1→b≠g2→b < W.heap.size→W'.heap[b]?=W.heap[b]?):MastIn W' c f e l M:=by
 obtain ⟨a1,a2,a3,a4⟩:=mast_zero hb1 h hs
 obtain ⟨b1,b2,b3,b4⟩:=mast_zero hb2 h hs
 have both:∀ v,OffV (fun b=>b≠g1) v→OffV (fun b=>b≠g2) v→OffV (fun b=>b≠g1∧b≠g2) v:=fun v x y ad n c e hn=>⟨x ad n c e hn,y ad n c e hn⟩
 exact mast_off h (both _ a1 b1) (both _ a2 b2) (both _ a3 b3) (both _ a4 b4) (fun b hb hlt=>hk b hb.1 hb.2 hlt)
def MasterTold (s:ByteArray) (w:World) (en:Ending) (w':World):Prop :=
 ∃ M c f e l c' f' e' l',∃ is:Bool,en=.returned (.tuple #[aggM c f e l M,aggM c' f' e' l' M,.bool is])∧MastIn w' c f e l M∧MastIn w' c' f' e' l' M∧Below w.heap.size w w'∧(is=true→RightOf s M∧s.size≤4000)
abbrev rzeroBox (w:World):World:=w.alloc (.cells #[.slice none 0 0,.slice none 0 0,.slice none 0 0,.slice none 0 0,.string emp,.string emp,.string emp,.string emp,.string emp] 36)
theorem rbox_start (w:World):BoxM (rzeroBox w) w.heap.size 36 nil4 nil4 nil4 nil4 zeroM:=heap_alloc_new w _
set_option maxRecDepth 100000 in
set_option maxHeartbeats 16000000 in
theorem master_any (s:ByteArray) (w:World) (hl:Laid w) (hlf:Fl.Laid w):Calls Tryz.prog 11 #[.string s] w (MasterTold s w):=by
 have hb1:=(Below.refl w.heap.size w).alloc (Nat.le_refl _) (.cells #[.slice none 0 0,.slice none 0 0,.slice none 0 0,.slice none 0 0,.string emp,.string emp,.string emp,.string emp,.string emp] 30)
 have hx1:=box_start w
 obtain ⟨W1,hW1⟩:∃ W1,w.alloc (.cells #[.slice none 0 0,.slice none 0 0,.slice none 0 0,.slice none 0 0,.string ⟨#[]⟩,.string ⟨#[]⟩,.string ⟨#[]⟩,.string ⟨#[]⟩,.string ⟨#[]⟩] 30)=W1:=⟨_,rfl⟩
 have hW1':zeroBox w=W1:=hW1
 rw [hW1'] at hx1
 rw [show w.alloc (.cells #[.slice none 0 0,.slice none 0 0,.slice none 0 0,.slice none 0 0,.string emp,.string emp,.string emp,.string emp,.string emp] 30)=W1 from hW1] at hb1
 have hb2:=(Below.refl W1.heap.size W1).alloc (Nat.le_refl _) (.cells #[.slice none 0 0,.slice none 0 0,.slice none 0 0,.slice none 0 0,.string emp,.string emp,.string emp,.string emp,.string emp] 36)
 have hx2:=rbox_start W1
 obtain ⟨W2,hW2⟩:∃ W2,W1.alloc (.cells #[.slice none 0 0,.slice none 0 0,.slice none 0 0,.slice none 0 0,.string ⟨#[]⟩,.string ⟨#[]⟩,.string ⟨#[]⟩,.string ⟨#[]⟩,.string ⟨#[]⟩] 36)=W2:=⟨_,rfl⟩
 have hW2':rzeroBox W1=W2:=hW2
 rw [hW2'] at hx2
 rw [show W1.alloc (.cells #[.slice none 0 0,.slice none 0 0,.slice none 0 0,.slice none 0 0,.string emp,.string emp,.string emp,.string emp,.string emp] 36)=W2 from hW2] at hb2
 have hlt:w.heap.size < W1.heap.size:=hx1.lt
 have HLT:=Lib.hid hlt
 have HB2:=Lib.hid (hb1.trans (hb2.mono hb1.size))
 have HX1:=Lib.hid (hx1.kept hb2)
 have HX2:=Lib.hid hx2
 have HL2:=Lib.hid (hl.below HB2.out (Nat.le_refl _))
 have HLF2:=Lib.hid (hlf.below HB2.out (Nat.le_refl _))
 clear hb1 hb2 hx1 hx2 hlt hW1' hW2' hl hlf
 go_enter Tryz.func11,Tryz.ntmps11
 by_cases hs:4000 < s.size
 ·go_wp2_with (first
   | (refine wpList_store_mast rfl 30 (.tmp 2) (.tmp 12) rfl w.heap.size nil4 nil4 nil4 nil4 nil4 nil4 nil4 nil4 zeroM zeroM 30 rfl rfl HX1.out ones_nil (by kernel_rfl) ?_;intro w3 hb3 hg3;have HX3:=Lib.hid hb3;have HG3:=Lib.hid hg3;have HY3:Hid (BoxM w3 W1.heap.size 36 nil4 nil4 nil4 nil4 zeroM):=Lib.hid ((hg3.block _ HX2.out.lt (fun e0=>by have:=HLT.out;have:=Option.some.inj e0;omega)).trans HX2.out);clear hb3 hg3)
   | (refine wpList_store_mast rfl 36 (.tmp 3) (.tmp 13) rfl W1.heap.size nil4 nil4 nil4 nil4 nil4 nil4 nil4 nil4 zeroM zeroM 36 rfl rfl HY3.out ones_nil (by kernel_rfl) ?_;intro w4 hb4 hg4;have HX4:=Lib.hid hb4;have HG4:=Lib.hid hg4;clear hb4 hg4)
   | fail)
  have HY4:Hid (BoxM w4 w.heap.size 30 nil4 nil4 nil4 nil4 zeroM):=Lib.hid ((HG4.out.block _ HX3.out.lt (fun e0=>by have:=HLT.out;have:=Option.some.inj e0;omega)).trans HX3.out)
  have HBF:=Lib.hid ((HB2.out.grown HG3.out HB2.out.size (fun j hj=>by cases hj;exact Nat.le_refl _)).grown HG4.out (HB2.out.grown HG3.out HB2.out.size (fun j hj=>by cases hj;exact Nat.le_refl _)).size (fun j hj=>by cases hj;have:=HLT.out;omega))
  have HZ:=Lib.hid (MastIn.zero w4)
  obtain ⟨c0,c1,c2,c3,c4,c5,c6,c7,c8⟩:=HY4.out.nine
  obtain ⟨d0,d1,d2,d3,d4,d5,d6,d7,d8⟩:=HX4.out.nine
  exact bodyPost_ret (v:=.tuple #[aggM nil4 nil4 nil4 nil4 zeroM,aggM nil4 nil4 nil4 nil4 zeroM,.bool false]) (by simp [results,Tryz.results11,go_sem,c0,c1,c2,c3,c4,c5,c6,c7,c8,d0,d1,d2,d3,d4,d5,d6,d7,d8]) rfl ⟨_,_,_,_,_,_,_,_,_,_,rfl,HZ.out,HZ.out,HBF.out,fun h=>by cases h⟩
 ·have HS:Hid (s.size≤4000):=Lib.hid (by omega)
  have HPA:=Lib.hid (fun W h1 h2=>Un.parse_any s W (by omega) h1 h2)
  have HPD:=Lib.hid (fun W=>rparseU_any s W (by omega))
  have hpw:((parseM s).2=0∧RightOf s (parseM s).1)∨(parseM s).2≠0:=by
   rcases parse_ways s with ⟨M,h1,h2,h3,h4,h5⟩ | ⟨h1,h2⟩
   ·rw [h4];exact .inl ⟨rfl,h1,h2,h3,h5⟩
   ·exact .inr h2
  obtain ⟨M,hM⟩:∃ M,(parseM s).1=M:=⟨_,rfl⟩
  obtain ⟨n,hn⟩:∃ n,(parseM s).2=n:=⟨_,rfl⟩
  have hso:=solid_parse s
  rw [hM] at hso
  have HSO:=Lib.hid hso
  clear hso
  rw [hM,hn] at hpw
  simp only [hM,hn] at HPA HPD
  have HPW:=Lib.hid hpw
  clear hpw hM hn
  go_wp2_with fail
  clear hW1 hW2
  refine (HPA.out _ HL2.out HLF2.out).mono ?_
  rintro en w3 ⟨v3,rfl,⟨c,f,e,l,rfl,hm⟩,hb3⟩
  obtain ⟨pc,cc,pf,cf,pe,ce,pl,cl,rfl,rfl,rfl,rfl⟩:=shapes hm
  have hb4:=hb3.alloc hb3.size (.cells (cellsM (.slice pc M.chart.length cc) (.slice pf M.flows.length cf) (.slice pe M.ents.length ce) (.slice pl M.lines.length cl) M) 30)
  have HB4:=Lib.hid hb4
  have HM4:=Lib.hid (hm.keep ((Below.refl w3.heap.size w3).alloc (Nat.le_refl _) (.cells (cellsM (.slice pc M.chart.length cc) (.slice pf M.flows.length cf) (.slice pe M.ents.length ce) (.slice pl M.lines.length cl) M) 30)))
  have HN4:=Lib.hid (nine_new w3 (.slice pc M.chart.length cc) (.slice pf M.flows.length cf) (.slice pe M.ents.length ce) (.slice pl M.lines.length cl) M 30)
  have HSZ3:Hid (W2.heap.size≤w3.heap.size):=Lib.hid hb3.size
  clear hm hb3 hb4
  go_wp2_with fail
  refine (HPD.out _).mono ?_
  rintro en w5 ⟨v5,rfl,⟨c',f',e',l',rfl,hm'⟩,hb5⟩
  obtain ⟨pc',cc',pf',cf',pe',ce',pl',cl',rfl,rfl,rfl,rfl⟩:=shapes hm'
  have hb6:=hb5.alloc hb5.size (.cells (cellsM (.slice pc' M.chart.length cc') (.slice pf' M.flows.length cf') (.slice pe' M.ents.length ce') (.slice pl' M.lines.length cl') M) 36)
  have HB6:=Lib.hid (HB4.out.trans (hb6.mono HB4.out.size))
  have HM6:=Lib.hid (HM4.out.keep hb6)
  have HN6:=Lib.hid (HN4.out.kept hb6)
  have HM6':=Lib.hid (hm'.keep ((Below.refl w5.heap.size w5).alloc (Nat.le_refl _) (.cells (cellsM (.slice pc' M.chart.length cc') (.slice pf' M.flows.length cf') (.slice pe' M.ents.length ce') (.slice pl' M.lines.length cl') M) 36)))
  have HN6':=Lib.hid (nine_new w5 (.slice pc' M.chart.length cc') (.slice pf' M.flows.length cf') (.slice pe' M.ents.length ce') (.slice pl' M.lines.length cl') M 36)
  have HSZ5:Hid (W2.heap.size≤w5.heap.size):=Lib.hid (by have h1:=hb5.size;rw [World.size_alloc] at h1;have:=HSZ3.out;omega)
  clear hm' hb5 hb6 HM4 HN4 HB4
  obtain ⟨k0,k1,k2,k3,k4,k5,k6,k7,k8⟩:=HN6.out
  obtain ⟨j0,j1,j2,j3,j4,j5,j6,j7,j8⟩:=HN6'.out
  obtain ⟨is,his⟩:∃ b,decide (n=0)=b:=⟨_,rfl⟩
  have HIS:Hid (is=true→RightOf s M∧s.size≤4000):=Lib.hid (fun h1=>by
   rw [←his] at h1
   rcases HPW.out with ⟨_,h2⟩ | h2
   ·exact ⟨h2,HS.out⟩
   ·exact absurd (of_decide_eq_true h1) h2)
  have hn0:(n==0)=is:=by rw [←his];by_cases h:n=0 <;> simp [h]
  clear his
  generalize hW6:w5.alloc (.cells (cellsM (.slice pc' M.chart.length cc') (.slice pf' M.flows.length cf') (.slice pe' M.ents.length ce') (.slice pl' M.lines.length cl') M) 36)=W6 at HB6 HM6 HN6 HM6' HN6' k0 k1 k2 k3 k4 k5 k6 k7 k8 j0 j1 j2 j3 j4 j5 j6 j7 j8
  have HX6:Hid (BoxM W6 w.heap.size 30 nil4 nil4 nil4 nil4 zeroM):=Lib.hid ((HB6.out.block _ HX1.out.lt).trans HX1.out)
  have HX6':Hid (BoxM W6 W1.heap.size 36 nil4 nil4 nil4 nil4 zeroM):=Lib.hid ((HB6.out.block _ HX2.out.lt).trans HX2.out)
  have hok1:w3.heap.size≠w.heap.size∧w3.heap.size≠W1.heap.size:=by have h1:=HX1.out.lt;have h2:=HX2.out.lt;have:=HSZ3.out;omega
  have hok2:w5.heap.size≠w.heap.size∧w5.heap.size≠W1.heap.size:=by have h1:=HX1.out.lt;have h2:=HX2.out.lt;have:=HSZ5.out;omega
  cases is
  all_goals
   go_wp2_with fail
   clear hW6
   have r0:=fun q:Leave (fun j=>j≠w.heap.size∧j≠W1.heap.size) W6=>cell_leave k0 hok1 q
   have t0:=fun q:Leave (fun j=>j≠w.heap.size∧j≠W1.heap.size) W6=>cell_leave j0 hok2 q
   have r1:=fun q:Leave (fun j=>j≠w.heap.size∧j≠W1.heap.size) W6=>cell_leave k1 hok1 q
   have t1:=fun q:Leave (fun j=>j≠w.heap.size∧j≠W1.heap.size) W6=>cell_leave j1 hok2 q
   have r2:=fun q:Leave (fun j=>j≠w.heap.size∧j≠W1.heap.size) W6=>cell_leave k2 hok1 q
   have t2:=fun q:Leave (fun j=>j≠w.heap.size∧j≠W1.heap.size) W6=>cell_leave j2 hok2 q
   have r3:=fun q:Leave (fun j=>j≠w.heap.size∧j≠W1.heap.size) W6=>cell_leave k3 hok1 q
   have t3:=fun q:Leave (fun j=>j≠w.heap.size∧j≠W1.heap.size) W6=>cell_leave j3 hok2 q
   have r4:=fun q:Leave (fun j=>j≠w.heap.size∧j≠W1.heap.size) W6=>cell_leave k4 hok1 q
   have t4:=fun q:Leave (fun j=>j≠w.heap.size∧j≠W1.heap.size) W6=>cell_leave j4 hok2 q
   have r5:=fun q:Leave (fun j=>j≠w.heap.size∧j≠W1.heap.size) W6=>cell_leave k5 hok1 q
   have t5:=fun q:Leave (fun j=>j≠w.heap.size∧j≠W1.heap.size) W6=>cell_leave j5 hok2 q
   have r6:=fun q:Leave (fun j=>j≠w.heap.size∧j≠W1.heap.size) W6=>cell_leave k6 hok1 q
   have t6:=fun q:Leave (fun j=>j≠w.heap.size∧j≠W1.heap.size) W6=>cell_leave j6 hok2 q
   have r7:=fun q:Leave (fun j=>j≠w.heap.size∧j≠W1.heap.size) W6=>cell_leave k7 hok1 q
   have t7:=fun q:Leave (fun j=>j≠w.heap.size∧j≠W1.heap.size) W6=>cell_leave j7 hok2 q
   have r8:=fun q:Leave (fun j=>j≠w.heap.size∧j≠W1.heap.size) W6=>cell_leave k8 hok1 q
   have t8:=fun q:Leave (fun j=>j≠w.heap.size∧j≠W1.heap.size) W6=>cell_leave j8 hok2 q
   clear k0 k1 k2 k3 k4 k5 k6 k7 k8 j0 j1 j2 j3 j4 j5 j6 j7 j8
   refine wp_region_plan_if (S:=fun w'=>∃ q:Leave (fun j=>j≠w.heap.size∧j≠W1.heap.size) W6,w'=q.its) (.one [0,1,2,3,4,5,6,7] 8 (.one [] 9 (.last [10]))) (by kernel_rfl) (by kernel_rfl) (fun d _ _ _ _ h=>by cases d <;> exact h) ⟨⟨W6.drew,fun _ _ _=>rfl⟩,rfl⟩ ?_
   obtain ⟨wz,hwz⟩:∃ wz,W6.drew=wz:=⟨_,rfl⟩
   rw [hwz]
   have HQ:Hid (Below W6.heap.size W6 wz):=Lib.hid (by rw [←hwz];exact ⟨rfl,rfl,rfl,Nat.le_refl _,fun _ _=>rfl⟩)
   clear hwz
   simp only [wpPlan,pick,nth]
   repeat (go_big_quiet_step (fail))
   refine wpQuiet_nil ?_
   clear r0 r1 r2 r3 r4 r5 r6 r7 r8 t0 t1 t2 t3 t4 t5 t6 t7 t8
   have HXZ:=Lib.hid (HX6.out.kept HQ.out)
   have HXZ':=Lib.hid (HX6'.out.kept HQ.out)
   have HMZ:=Lib.hid (HM6.out.keep HQ.out)
   have HMZ':=Lib.hid (HM6'.out.keep HQ.out)
   intro K hK
   refine alone_want (by kernel_rfl) ?_
   refine wp_store_mast 30 (.tmp 2) (.tmp 24) rfl w.heap.size nil4 nil4 nil4 nil4 (.slice pc M.chart.length cc) (.slice pf M.flows.length cf) (.slice pe M.ents.length ce) (.slice pl M.lines.length cl) zeroM M 30 rfl rfl HXZ.out ⟨rfl,rfl,rfl,rfl⟩ (by kernel_rfl) ?_
   intro w7 hb7 hg7
   have HG7:=Lib.hid hg7
   have HB7:=Lib.hid hb7
   have HY7:Hid (BoxM w7 W1.heap.size 36 nil4 nil4 nil4 nil4 zeroM):=Lib.hid ((hg7.block _ HXZ'.out.lt (fun e0=>by have:=HLT.out;have:=Option.some.inj e0;omega)).trans HXZ'.out)
   have HKP7:Hid (∀ j,j≠w.heap.size→j < wz.heap.size→w7.heap[j]?=wz.heap[j]?):=Lib.hid (fun j h1 h2=>hg7.block j h2 (fun e0=>h1 (Option.some.inj e0)))
   refine hK _ _ (leave_in fun j hj hjl=>?_) ?_
   ·exact (HKP7.out j hj.1 (by have:=HQ.out.size;omega)).trans (HQ.out.block j hjl)
   clear hK K hb7 hg7
   simp only [Act.put]
   refine wpQuiet_nil ?_
   intro K hK
   refine alone_want (by kernel_rfl) ?_
   refine wp_store_mast 36 (.tmp 3) (.tmp 25) rfl W1.heap.size nil4 nil4 nil4 nil4 (.slice pc' M.chart.length cc') (.slice pf' M.flows.length cf') (.slice pe' M.ents.length ce') (.slice pl' M.lines.length cl') zeroM M 36 rfl rfl HY7.out ⟨rfl,rfl,rfl,rfl⟩ (by kernel_rfl) ?_
   intro w8 hb8 hg8
   have HB8:=Lib.hid hb8
   have HKP8:Hid (∀ j,j≠w.heap.size→j≠W1.heap.size→j < wz.heap.size→w8.heap[j]?=wz.heap[j]?):=Lib.hid (fun j h1 h2 h3=>(hg8.block j (by have:=HG7.out.size;omega) (fun e0=>h2 (Option.some.inj e0))).trans (HKP7.out j h1 h3))
   have HY8:Hid (BoxM w8 w.heap.size 30 (.slice pc M.chart.length cc) (.slice pf M.flows.length cf) (.slice pe M.ents.length ce) (.slice pl M.lines.length cl) M):=Lib.hid ((hg8.block _ HB7.out.lt (fun e0=>by have:=HLT.out;have:=Option.some.inj e0;omega)).trans HB7.out)
   have hbz:=HB2.out.trans ((HB6.out.trans (HQ.out.mono HB6.out.size)).mono HB2.out.size)
   have hbz7:=hbz.grown HG7.out hbz.size (fun j hj=>by cases hj;exact Nat.le_refl _)
   have HBF:=Lib.hid (hbz7.grown hg8 hbz7.size (fun j hj=>by cases hj;have:=HLT.out;omega))
   have HMF:=Lib.hid (mast_two HXZ.out HXZ'.out HMZ.out HSO.out HKP8.out)
   have HMF':=Lib.hid (mast_two HXZ.out HXZ'.out HMZ'.out HSO.out HKP8.out)
   refine hK _ _ (leave_in fun j hj hjl=>?_) ?_
   ·exact (HKP8.out j hj.1 hj.2 (by have:=HQ.out.size;omega)).trans (HQ.out.block j hjl)
   clear hK K hb8 hg8 hbz hbz7
   simp only [Act.put]
   repeat (go_big_quiet_step (fail))
   refine wpQuiet_nil ?_
   go_wp2
   obtain ⟨c0,c1,c2,c3,c4,c5,c6,c7,c8⟩:=HY8.out.nine
   obtain ⟨d0,d1,d2,d3,d4,d5,d6,d7,d8⟩:=HB8.out.nine
   first
    | exact bodyPost_ret (v:=.tuple #[aggM (.slice pc M.chart.length cc) (.slice pf M.flows.length cf) (.slice pe M.ents.length ce) (.slice pl M.lines.length cl) M,aggM (.slice pc' M.chart.length cc') (.slice pf' M.flows.length cf') (.slice pe' M.ents.length ce') (.slice pl' M.lines.length cl') M,.bool true]) (by simp [results,Tryz.results11,go_sem,c0,c1,c2,c3,c4,c5,c6,c7,c8,d0,d1,d2,d3,d4,d5,d6,d7,d8]) rfl ⟨_,_,_,_,_,_,_,_,_,_,rfl,HMF.out,HMF'.out,HBF.out,fun _=>HIS.out (by first | trivial | rfl)⟩
    | exact bodyPost_ret (v:=.tuple #[aggM (.slice pc M.chart.length cc) (.slice pf M.flows.length cf) (.slice pe M.ents.length ce) (.slice pl M.lines.length cl) M,aggM (.slice pc' M.chart.length cc') (.slice pf' M.flows.length cf') (.slice pe' M.ents.length ce') (.slice pl' M.lines.length cl') M,.bool false]) (by simp [results,Tryz.results11,go_sem,c0,c1,c2,c3,c4,c5,c6,c7,c8,d0,d1,d2,d3,d4,d5,d6,d7,d8]) rfl ⟨_,_,_,_,_,_,_,_,_,_,rfl,HMF.out,HMF'.out,HBF.out,fun h=>(by cases h)⟩
end Go.Proofs.YtdegffffcbhjbaaGreatDoor.Pk
end
section
namespace Go.Proofs.YtdegffffcbhjbaaGreatDoor.Fa
open Go.RowKit
theorem eql_rkey (a b:Key) (w:World):Sem.run Tryz.prog (binOp .eql 51 (aggK a) (aggK b)) w=.ok (.bool (eqK a b)) w:=by
 have hS:Tryz.prog.underlying 51=some (.struct (Tryz.prog.fieldsOf 51)):=by kernel_rfl
 have hp:Tryz.prog.stoodInHeld 51=false:=by kernel_rfl
 rw [run_eql_struct,show (10000:Nat)=9999+1 from rfl,run_equalIn_agg w 9999 51 _ _ hS hp,←eqKs_eq]
 simp only [Program.fieldsOf,Tryz.underlying51]
 go_simp
 unfold eqKs
 by_cases h0:a.e.toList=b.e.toList
 ·by_cases h1:a.a.toList=b.a.toList
  ·by_cases h2:a.f.toList=b.f.toList
   ·by_cases h3:a.p.toList=b.p.toList
    ·by_cases h4:a.m=b.m <;> simp [h0,h1,h2,h3,h4]
    ·simp [h0,h1,h2,h3]
   ·simp [h0,h1,h2]
  ·simp [h0,h1]
 ·simp [h0]
theorem guard_rkey:Tryz.prog.eqGuardType Tryz.prog.depth 51=false:=by kernel_rfl
end Go.Proofs.YtdegffffcbhjbaaGreatDoor.Fa
end
section
namespace Go.Proofs.YtdegffffcbhjbaaGreatDoor
open Go.RowKit
set_option maxHeartbeats 400000 in
theorem radd_any (a b:Int) (w:World) (ha:In64 a) (hb:In64 b) :
 Calls Tryz.prog 96 #[.int .i64 a,.int .i64 b] w fun e w'=>e=.returned (.tuple #[.int .i64 (addCV a b),.int .i64 (addCE a b)])∧w=w':=by
 obtain ⟨a1,a2⟩:=ha
 obtain ⟨b1,b2⟩:=hb
 cases hf:fit (a+b) with
 | true =>
   rw [addV_yes hf,addE_yes hf]
   obtain ⟨s1,s2⟩:=(fit_iff _).1 hf
   clear hf
   go_enter Tryz.func96,Tryz.ntmps96
   go_wp2
   all_goals
    go_ret2
    exact ⟨rfl,rfl⟩
 | false =>
   rw [addV_no hf,addE_no hf]
   rcases (fit_no _).1 hf with h | h
   ·obtain ⟨h1,h2⟩:=add_under a1 b1 h
    clear hf
    go_enter Tryz.func96,Tryz.ntmps96
    go_wp2
    all_goals
     go_ret2
     exact ⟨rfl,rfl⟩
   ·obtain ⟨h1,h2⟩:=add_over a2 b2 h
    clear hf
    go_enter Tryz.func96,Tryz.ntmps96
    go_wp2
    all_goals
     go_ret2
     exact ⟨rfl,rfl⟩
set_option maxHeartbeats 400000 in
theorem rneg_any (a:Int) (w:World) (ha:In64 a) :
 Calls Tryz.prog 94 #[.int .i64 a] w fun e w'=>e=.returned (.tuple #[.int .i64 (subV 0 a),.int .i64 (subE 0 a)])∧w=w':=by
 obtain ⟨a1,a2⟩:=ha
 cases hf:fit (0 - a) with
 | true =>
   rw [subV_yes hf,subE_yes hf]
   obtain ⟨s1,s2⟩:=(fit_iff _).1 hf
   clear hf
   have hs:(0:Int) - a=-a:=by omega
   rw [hs]
   clear hs
   go_enter Tryz.func94,Tryz.ntmps94
   go_wp2
   all_goals
    go_ret2
    exact ⟨rfl,rfl⟩
 | false =>
   rw [subV_no hf,subE_no hf]
   have h:a=-9223372036854775808:=by
    rcases (fit_no _).1 hf with h | h <;> omega
   clear hf a1 a2
   subst h
   go_enter Tryz.func94,Tryz.ntmps94
   go_wp2
   all_goals
    go_ret2
    exact ⟨rfl,rfl⟩
end Go.Proofs.YtdegffffcbhjbaaGreatDoor
end
section
namespace Go.Proofs.YtdegffffcbhjbaaGreatDoor
open Go.RowKit
set_option maxHeartbeats 400000 in
theorem rsum_any (a:Option Addr) (n c:Nat) (l:List Int) (w:World) (h:RowIs .i64 w a n l) (hz:∀ x∈l,In64 x) :
 Calls Tryz.prog 59 #[.slice a n c] w fun e w'=>e=.returned (.tuple #[.int .i64 (sumFrom 0 l).1,.int .i64 (sumFrom 0 l).2])∧w=w':=by
 have hm:=h.max
 unfold maxLen at hm
 have H:=Lib.hid h
 have HZ:=Lib.hid hz
 clear h hz
 go_enter Tryz.func59,Tryz.ntmps59
 go_wp2
 go_loop [4,5] (fun s i=>∃ k:Nat,∃ x:Int,k≤n∧i=.int .i64 k∧s=.int .i64 x∧In64 x∧sumFrom 0 l=sumFrom x (l.drop k)) (fun _ i=>n - (intOf i).toNat)
 case atStart=>exact ⟨0,0,Nat.zero_le _,rfl,rfl,⟨by omega,by omega⟩,rfl⟩
 case round =>
  obtain ⟨k,x,hk,rfl,rfl,hx,hs⟩:=hrel
  have HS:=Lib.hid hs
  clear hs
  by_cases hlt:k < n
  ·obtain ⟨b,o,rfl,hc⟩:=H.out.cell k hlt
   have hin:In64 (l.getD k 0):=by
    have hl:=H.out.len
    rw [getD_at l k (by omega)]
    exact HZ.out _ (List.getElem_mem _)
   cases hf:fit (x+l.getD k 0) with
   | true =>
     have HF:=Lib.hid hf
     clear hf
     generalize hy:l.getD k 0=y at *
     have HY:=Lib.hid hy
     clear hy
     go_wp2_with (go_at_call 96;refine (radd_any x y _ hx hin).mono ?_;rintro e w' ⟨rfl,rfl⟩;rw [addV_yes HF.out,addE_yes HF.out])
     go_round
     case rel=>exact ⟨k+1,x+y,by omega,by go_num,rfl,in64_of_fit HF.out,by rw [HS.out,sum_step l k x (by rw [H.out.len];exact hlt),HY.out,sumFrom_yes _ HF.out]⟩
     case measure=>simp [intOf];omega
   | false =>
     have HF:=Lib.hid hf
     clear hf
     generalize hy:l.getD k 0=y at *
     have HY:=Lib.hid hy
     clear hy
     have hfin:sumFrom 0 l=(0,2):=by rw [HS.out,sum_step l k x (by rw [H.out.len];exact hlt),HY.out,sumFrom_no _ HF.out]
     have HFIN:=Lib.hid hfin
     clear hfin
     go_wp2_with (go_at_call 96;refine (radd_any x y _ hx hin).mono ?_;rintro e w' ⟨rfl,rfl⟩;rw [addV_no HF.out,addE_no HF.out])
     go_ret2
     rw [HFIN.out]
     exact ⟨rfl,rfl⟩
  ·have hfin:sumFrom 0 l=(x,0):=by
    rw [HS.out,List.drop_of_length_le (by rw [H.out.len];omega)];rfl
   have HFIN:=Lib.hid hfin
   clear hfin
   go_wp2
   go_ret2
   rw [HFIN.out]
   exact ⟨rfl,rfl⟩
end Go.Proofs.YtdegffffcbhjbaaGreatDoor
end
section
namespace Go.Proofs.YtdegffffcbhjbaaGreatDoor.Pk
open Go.RowKit Go.Maps Go.Proofs.YtdegffffcbhjbaaGreatDoor.Un
theorem start1 (w:World):BoxM (rzeroBox (zeroBox w)) w.heap.size 30 nil4 nil4 nil4 nil4 zeroM:=(box_start w).kept ((Below.refl _ _).alloc (Nat.le_refl _) _)
theorem start2 (w:World):BoxM (rzeroBox (zeroBox w)) (w.heap.size+1) 36 nil4 nil4 nil4 nil4 zeroM:=by
 have:=rbox_start (zeroBox w)
 rw [World.size_alloc] at this
 exact this
theorem start_keep {w w3:World} (g3:(rzeroBox (zeroBox w)).grownBy w3 (some w.heap.size)):BoxM w3 (w.heap.size+1) 36 nil4 nil4 nil4 nil4 zeroM :=
 (g3.block _ (start2 w).lt (fun e0=>by have:=Option.some.inj e0;omega)).trans (start2 w)
structure TwoM (w0 w:World) (c f e l c' f' e' l':Value) (M:Mast):Prop where
 bel:Below w0.heap.size w0 w
 mast:MastIn w c f e l M
 mast':MastIn w c' f' e' l' M
 nine:NineAt w w0.heap.size c f e l M
 nine':NineAt w (w0.heap.size+1) c' f' e' l' M
theorem two_of {w w3 w4:World} {c f e l c' f' e' l':Value} {M:Mast} (hm:MastIn w c f e l M) (hm':MastIn w c' f' e' l' M) (h3:BoxM w3 w.heap.size 30 c f e l M) (g3:(rzeroBox (zeroBox w)).grownBy w3 (some w.heap.size))
 (h4:BoxM w4 (w.heap.size+1) 36 c' f' e' l' M) (g4:w3.grownBy w4 (some (w.heap.size+1))):TwoM w w4 c f e l c' f' e' l' M:=by
 have b0:Below w.heap.size w (rzeroBox (zeroBox w)):=((Below.refl w.heap.size w).alloc (Nat.le_refl _) _).alloc (by rw [World.size_alloc];omega) _
 have b3:=b0.grown g3 b0.size (fun j hj=>by cases hj;exact Nat.le_refl _)
 have b4:=b3.grown g4 b3.size (fun j hj=>by cases hj;omega)
 refine ⟨b4,hm.keep b4,hm'.keep b4,?_,h4.nine⟩
 exact BoxM.nine ((g4.block _ h3.lt (fun e0=>by have:=Option.some.inj e0;omega)).trans h3)
theorem TwoM.keep {w0 w w':World} {c f e l c' f' e' l':Value} {M:Mast} (h:TwoM w0 w c f e l c' f' e' l' M) (hb:Below w.heap.size w w'):TwoM w0 w' c f e l c' f' e' l' M :=
 ⟨h.bel.trans (hb.mono h.bel.size),h.mast.keep hb,h.mast'.keep hb,h.nine.kept hb,h.nine'.kept hb⟩
end Go.Proofs.YtdegffffcbhjbaaGreatDoor.Pk
end
section
namespace Go.Proofs.YtdegffffcbhjbaaGreatDoor.Fa
open Go.RowKit
theorem infoR:InfoE Tryz.prog 44 53 encF:=.of (z:=.agg #[.string ⟨#[]⟩,.string ⟨#[]⟩,.string ⟨#[]⟩,.string ⟨#[]⟩,.int .i64 0,.int .i64 0]) (n:=80) Tryz.underlying44 (by kernel_rfl) rfl (by decide)
def smallB (x:Fact):Bool:=decide (x.amt≤4503599627370496) && decide (-4503599627370496≤x.amt)
def smallL (c:List Fact):Bool:=c.all smallB
end Go.Proofs.YtdegffffcbhjbaaGreatDoor.Fa
end
