/- LexRlines FaByKey FaIter FaOf FaGet FaRight -/
import Derived.Test.YtfhhihamndbcnaaGreatDoorR06
import Derived.Test.YtfhhihamndbcnaaGreatDoorR09
import Derived.Test.YtfhhihamndbcnaaGreatDoorR11
import Derived.Test.YtfhhihamndbcnaaGreatDoorR12
section
namespace Go.Proofs.YtfhhihamndbcnaaGreatDoor
open Go.RowKit
theorem info_rline2:(Tryz.prog.info? 129).map (fun i=>(i.zero,i.size,i.bytes))=some (some (.agg #[.int .i64 0,.slice none 0 0]),2,32):=by kernel_rfl
def RLinesAt (w:World) (l:List UInt8) (s5 s6 s7 s8:Value) (wr:World):Prop :=
 ∃ (k f n:Nat) (LV:List (Int × Value)) (out:List (Nat × List (List UInt8))),s8=.int .i64 (k:Int)∧s7=.int .i64 (f:Int)∧s6=.int .i64 (n:Int)∧k≤l.length+1∧f≤l.length+1∧n≤k+1∧out.length≤k ∧
   (k≤l.length→f≤k∧linesL l=out++numP (enumL n (linesGo (pieceL l (f,k)) (l.drop k))))∧(k=l.length+1→linesL l=out) ∧
   wr.ownsRow w.heap.size 129 2 s5 LV.length (flatL LV)∧WordsOwn wr w.heap.size 9 LV (asB out)∧Below w.heap.size w wr
theorem own_slice {W:World} {B:Nat} {e:TypeId} {s:Nat} {v:Value} {n:Nat} {xs:List Value} (h:W.ownsRow B e s v n xs):∃ a c,v=.slice a n c:=by
 rcases h.2 with ⟨rfl,rfl⟩ | ⟨g,cap,cur,rfl,_⟩
 ·exact ⟨_,_,rfl⟩
 ·exact ⟨_,_,rfl⟩
theorem numP_cons (n:Nat) (x:List UInt8) (r:List (Nat × List UInt8)):numP ((n,x)::r)=numP [(n,x)]++numP r:=by
 rw [←numP_append];rfl
theorem pieceL_nil (l:List UInt8) (a:Nat):pieceL l (a,a)=[]:=by simp [pieceL]
theorem rl_end (l out:List UInt8) (o:List (Nat × List (List UInt8))) (n f k:Nat) (h:linesL l=o++numP (enumL n (linesGo (pieceL l (f,k)) (l.drop k)))) (hk:l.drop k=10::out) (h1:l.drop (k+1)=out) :
 linesL l=(o++numP [(n,pieceL l (f,k))])++numP (enumL (n+1) (linesGo (pieceL l (k+1,k+1)) (l.drop (k+1)))):=by
 rw [h,hk,h1,pieceL_nil]
 simp only [linesGo,if_true,enumL]
 rw [numP_cons]
 simp
theorem rl_last (l:List UInt8) (o:List (Nat × List (List UInt8))) (n f k:Nat) (h:linesL l=o++numP (enumL n (linesGo (pieceL l (f,k)) (l.drop k)))) (hk:l.drop k=[]) :
 linesL l=o++numP [(n,pieceL l (f,k))]:=by
 rw [h,hk];rfl
def LinesHad (w:World) (L:List (Int × List ByteArray)) (c:Int) (e:Ending) (w':World):Prop :=
 ∃ v LV,e=.returned (.tuple #[v,.int .i64 c])∧w'.ownsRow w.heap.size 129 2 v LV.length (flatL LV)∧WordsOwn w' w.heap.size 9 LV L∧Below w.heap.size w w'
theorem LinesHad.none (w W:World) (h:Below w.heap.size w W) (c:Int):LinesHad w [] c (.returned (.tuple #[.slice none 0 0,.int .i64 c])) W :=
 ⟨_,[],rfl,World.ownsRow_nil _ _ _ _,WordsOwn.nil _ _ _,h⟩
theorem rlines_big (s:ByteArray) (w:World) (h:20000 < s.size) (hs:s.size≤30000) :
 Calls Tryz.prog 53 #[.string s] w (LinesHad w [] 4):=by
 go_enter Tryz.func53,Tryz.ntmps53
 go_wp2
 go_ret2
 exact LinesHad.none w w (Below.refl _ _) 4
set_option maxRecDepth 100000 in
set_option maxHeartbeats 4000000 in
theorem rlines_small (s:ByteArray) (w:World) (hs:s.size≤20000) :
 Calls Tryz.prog 53 #[.string s] w (LinesHad w (asB (if okL s.data.toList then linesL s.data.toList else [])) (if okL s.data.toList then 0 else 5)):=by
 obtain ⟨RV,hRV⟩:∃ RV,asB (if okL s.data.toList then linesL s.data.toList else [])=RV:=⟨_,rfl⟩
 obtain ⟨RE,hRE⟩:∃ RE:Int,(if okL s.data.toList then (0:Int) else 5)=RE:=⟨_,rfl⟩
 rw [hRV,hRE]
 have HRV:=Lib.hid hRV
 have HRE:=Lib.hid hRE
 have HSL:=Lib.hid (size_list s)
 clear hRV hRE
 have HBAD:Hid (okL s.data.toList=false→∀ W,LinesHad W RV RE (.returned (.tuple #[.slice none 0 0,.int .i64 5])) W):=Lib.hid fun hno W=>by
  rw [←HRE.out,←HRV.out,hno]
  exact LinesHad.none W W (Below.refl _ _) _
 have h1:¬ 20000 < s.size:=by omega
 obtain ⟨i0,hi,hz0,hz1,hz2⟩:=info_parts info_rline2
 have HI:=Lib.hid (And.intro hi (And.intro hz0 (And.intro hz1 hz2)))
 clear hi hz0 hz1 hz2
 go_enter Tryz.func53,Tryz.ntmps53
 go_wp2
 go_loop [4] (fun i=>∃ k:Nat,k≤s.size∧i=.int .i64 k∧(s.data.toList.take k).all okB=true) (fun i=>s.size - (intOf i).toNat)
 case atStart=>exact ⟨0,Nat.zero_le _,rfl,rfl⟩
 case round =>
  obtain ⟨k,hk,rfl,hd⟩:=hrel
  have HD:=Lib.hid hd
  clear hd
  by_cases hlt:k < s.size
  ·have HO:=Lib.hid (okB_dec s[k])
   have hb:s[k].toNat < 256:=UInt8.toNat_lt _
   go_wp2
   all_goals first
    | (go_ret2
       exact HBAD.out (all_no okB s k hlt (by rw [HO.out];exact decide_eq_false (by omega))) _)
    | (go_round
       case rel=>exact ⟨k+1,by omega,by go_num,by rw [all_take okB s k hlt,HD.out,HO.out];exact decide_eq_true (by first | omega | (simp only [bne_eq_false_iff_eq] at *;omega))⟩
       case measure=>simp [intOf];omega)
  ·have hok:okL s.data.toList=true:=all_end okB s k hlt hk HD.out
   have HRV':Hid (asB (linesL s.data.toList)=RV):=Lib.hid (by rw [←HRV.out,hok];rfl)
   have HRE':Hid (RE=0):=Lib.hid (by rw [←HRE.out,hok];rfl)
   clear hok
   go_wp2
   go_loopw [5,6,7,8] (fun s5 s6 s7 s8 wr=>RLinesAt w s.data.toList s5 s6 s7 s8 wr) (fun _ _ _ s8 _=>s.size+1 - (intOf s8).toNat)
   case atStart=>exact ⟨0,0,1,[],[],rfl,rfl,rfl,by omega,by omega,by omega,Nat.le_refl _,fun _=>⟨Nat.le_refl _,rfl⟩,fun h=>by omega,World.ownsRow_nil _ _ _ _,WordsOwn.nil _ _ _,Below.refl _ _⟩
   case round =>
    obtain ⟨k2,f,n,LV,out,rfl,rfl,rfl,hk2,hf2,hn2,hol,hgo,hend,hown,hw,hnx⟩:=hrel
    rw [HSL.out] at hk2 hf2 hgo hend
    have hlv:LV.length≤k2:=by rw [hw.1,asB_length];exact hol
    have HGO:=Lib.hid hgo
    have HEN:=Lib.hid hend
    have HOW:=Lib.hid hown
    have HWW:=Lib.hid hw
    have HNX:=Lib.hid hnx
    clear hgo hend hown hw hnx
    by_cases hlast:k2≤s.size
    ·obtain ⟨hfk,hL⟩:=HGO.out hlast
     have HL:=Lib.hid hL
     clear hL
     by_cases hke:k2=s.size
     ·have hdr:s.data.toList.drop k2=[]:=List.drop_eq_nil_of_le (by rw [HSL.out];omega)
      obtain ⟨P,hP⟩:∃ P,pieceL s.data.toList (f,k2)=P:=⟨_,rfl⟩
      have hPx:(s.extract f k2).data.toList=P:=by rw [piece_mid,mkB_data,←hP];rfl
      obtain ⟨x,hx⟩:∃ x,s.extract f k2=x:=⟨_,rfl⟩
      rw [hx] at hPx
      have hxs:x.size≤30000:=by rw [←size_list,hPx,←hP];unfold pieceL;rw [List.length_take,List.length_drop,HSL.out];omega
      have HRW:Hid (∀ W,Calls Tryz.prog 85 #[.string x] W (RWordsPost W (wordsL P))):=Lib.hid fun W=>by
       have:=lrwords_any x W hxs
       rwa [hPx] at this
      have c1:(0:Int)≤↑f:=by omega
      have c2:(↑f:Int)≤↑k2:=by omega
      have c3:(↑k2:Int)≤↑s.size:=by omega
      have HNEW:Hid (linesL s.data.toList=out++numP [(n,P)]):=Lib.hid (by rw [←hP];exact rl_last _ _ _ _ _ HL.out hdr)
      have hkb:((k2:Int)==(s.size:Int))=true:=by rw [beq_iff_eq];omega
      have HKE:=Lib.hid hke
      clear hdr hP hPx hke
      by_cases hpw:wordsL P=[]
      ·have HP1:Hid (numP [(n,P)]=[]):=Lib.hid (by simp [numP,hpw])
       have HPW:Hid (wordsL P=[]):=Lib.hid hpw
       clear hpw
       go_wp2_with fail
       refine (HRW.out _).mono ?_
       rintro e w2 ⟨v,rfl,ho,hb⟩
       obtain ⟨av,cv,rfl⟩:=own_slice ho
       rw [HPW.out]
       simp only [List.map_nil,List.length_nil]
       have HO2:=Lib.hid (row_below HOW.out hb)
       have HW2:=Lib.hid (HWW.out.mono fun u m xs hu=>row_below hu hb)
       have HN2:=Lib.hid (HNX.out.trans (hb.mono HNX.out.size))
       clear ho hb
       go_wp2
       go_roundw
       case rel=>exact ⟨k2+1,k2+1,n+1,LV,out++numP [(n,P)],by go_num,by go_num,by go_num,by rw [HSL.out];omega,by rw [HSL.out];omega,by omega,by rw [HP1.out,List.append_nil];omega,(fun h=>by rw [HSL.out] at h;have:=HKE.out;omega),fun _=>HNEW.out,HO2.out,by rw [HP1.out,List.append_nil];exact HW2.out,HN2.out⟩
       case measure=>simp [intOf];omega
      ·have HP1:Hid (numP [(n,P)]=[(n,wordsL P)]):=Lib.hid (by simp [numP,hpw])
       have hpl:0 < ((wordsL P).map mkB).length:=by rw [List.length_map];exact List.length_pos_iff.2 hpw
       obtain ⟨ws,hws⟩:∃ ws,(wordsL P).map mkB=ws:=⟨_,rfl⟩
       have HWS:=Lib.hid hws
       rw [hws] at hpl
       clear hpw hws
       go_wp2_with fail
       refine (HRW.out _).mono ?_
       rintro e w2 ⟨v,rfl,ho,hb⟩
       rw [HWS.out] at ho
       obtain ⟨av,cv,rfl⟩:=own_slice ho
       have hrow1:=row_below HOW.out hb
       have HW2:=Lib.hid (HWW.out.mono fun u m xs hu=>row_below hu hb)
       have HN2:=Lib.hid (HNX.out.trans (hb.mono HNX.out.size))
       have hsz2:w.heap.size≤w2.heap.size:=HN2.out.size
       have HO9:=Lib.hid (row_base ho HNX.out.size)
       have HR1:=Lib.hid hrow1
       clear ho hb hrow1
       go_wp2_with (at_builtin;refine wpList_append_own _ rfl _ _ 125 rfl w.heap.size 129 i0 (.agg #[.int .i64 0,.slice none 0 0]) 2 32 Tryz.underlying125 HI.out.1 HI.out.2.1 HI.out.2.2.1 HI.out.2.2.2 rfl (by decide) _ _ _ rfl (HR1.out.alloc _) ⟨w2.heap.size,0,none⟩ 1 1 [.int .i64 (n:Int),.slice av ws.length cv] rfl rfl (cell_two_new' _ _ _ _) (by intro u hu;simp at hu;rcases hu with rfl | rfl <;> rfl) (by unfold maxLen;omega) (by omega) (by simp;omega) ?_;intro v' w3 hown' hgrow _)
       have hK9:∀ (u:Value) (m:Nat) (xs:List Value),w2.ownsRow w.heap.size 9 1 u m xs→w3.ownsRow w.heap.size 9 1 u m xs:=fun u m xs hu =>
        (hu.alloc (.cells #[.int .i64 (n:Int),.slice av ws.length cv] 129)).kept hgrow (row_apart HR1.out hu (by decide))
       have HWF:Hid (WordsOwn w3 w.heap.size 9 (LV++[((n:Int),.slice av ws.length cv)]) (asB (out++numP [(n,P)]))):=Lib.hid (by
        rw [HP1.out,asB_append]
        have:asB [(n,wordsL P)]=[((n:Int),ws)]:=by simp [asB,HWS.out]
        rw [this]
        exact (HW2.out.mono hK9).snoc _ _ _ (hK9 _ _ _ HO9.out))
       have HOF:Hid (w3.ownsRow w.heap.size 129 2 v' (LV++[((n:Int),Value.slice av ws.length cv)]).length (flatL (LV++[((n:Int),Value.slice av ws.length cv)]))):=Lib.hid (by
        rw [flatL_snoc,List.length_append];exact hown')
       have HBF:=Lib.hid (below_grown (HN2.out.alloc hsz2 _) (by simp;omega) (HR1.out.alloc _) hgrow)
       clear hK9 hown' hgrow
       go_roundw
       case rel=>exact ⟨k2+1,k2+1,n+1,_,out++numP [(n,P)],by go_num,by go_num,by go_num,by rw [HSL.out];omega,by rw [HSL.out];omega,by omega,by rw [HP1.out];simp;omega,(fun h=>by rw [HSL.out] at h;have:=HKE.out;omega),fun _=>HNEW.out,HOF.out,HWF.out,HBF.out⟩
       case measure=>simp [intOf];omega
     ·have hkl:k2 < s.size:=by omega
      have hkb:((k2:Int)==(s.size:Int))=false:=by rw [beq_eq_false_iff_ne];omega
      have hdr:=drop_at s k2 hkl
      by_cases h10:s[k2].toNat=10
      ·have hc10:s[k2]=10:=UInt8.toNat_inj.1 h10
       rw [hc10] at hdr
       obtain ⟨P,hP⟩:∃ P,pieceL s.data.toList (f,k2)=P:=⟨_,rfl⟩
       have hPx:(s.extract f k2).data.toList=P:=by rw [piece_mid,mkB_data,←hP];rfl
       obtain ⟨x,hx⟩:∃ x,s.extract f k2=x:=⟨_,rfl⟩
       rw [hx] at hPx
       have hxs:x.size≤30000:=by rw [←size_list,hPx,←hP];unfold pieceL;rw [List.length_take,List.length_drop,HSL.out];omega
       have HRW:Hid (∀ W,Calls Tryz.prog 85 #[.string x] W (RWordsPost W (wordsL P))):=Lib.hid fun W=>by
        have:=lrwords_any x W hxs
        rwa [hPx] at this
       have c1:(0:Int)≤↑f:=by omega
       have c2:(↑f:Int)≤↑k2:=by omega
       have c3:(↑k2:Int)≤↑s.size:=by omega
       have HNEW:Hid (linesL s.data.toList=(out++numP [(n,P)])++numP (enumL (n+1) (linesGo (pieceL s.data.toList (k2+1,k2+1)) (s.data.toList.drop (k2+1))))):=Lib.hid (by rw [←hP];exact rl_end _ _ _ _ _ _ HL.out hdr rfl)
       have hb10:((s[k2].toNat:Int)==10)=true:=by rw [beq_iff_eq];omega
       clear hdr hP hPx hke h10 hc10
       by_cases hpw:wordsL P=[]
       ·have HP1:Hid (numP [(n,P)]=[]):=Lib.hid (by simp [numP,hpw])
        have HPW:Hid (wordsL P=[]):=Lib.hid hpw
        clear hpw
        go_wp2_with fail
        refine (HRW.out _).mono ?_
        rintro e w2 ⟨v,rfl,ho,hb⟩
        obtain ⟨av,cv,rfl⟩:=own_slice ho
        rw [HPW.out]
        simp only [List.map_nil,List.length_nil]
        have HO2:=Lib.hid (row_below HOW.out hb)
        have HW2:=Lib.hid (HWW.out.mono fun u m xs hu=>row_below hu hb)
        have HN2:=Lib.hid (HNX.out.trans (hb.mono HNX.out.size))
        clear ho hb
        go_wp2
        go_roundw
        case rel=>exact ⟨k2+1,k2+1,n+1,LV,out++numP [(n,P)],by go_num,by go_num,by go_num,by rw [HSL.out];omega,by rw [HSL.out];omega,by omega,by rw [HP1.out,List.append_nil];omega,fun _=>⟨Nat.le_refl _,HNEW.out⟩,(fun h=>by rw [HSL.out] at h;omega),HO2.out,by rw [HP1.out,List.append_nil];exact HW2.out,HN2.out⟩
        case measure=>simp [intOf];omega
       ·have HP1:Hid (numP [(n,P)]=[(n,wordsL P)]):=Lib.hid (by simp [numP,hpw])
        have hpl:0 < ((wordsL P).map mkB).length:=by rw [List.length_map];exact List.length_pos_iff.2 hpw
        obtain ⟨ws,hws⟩:∃ ws,(wordsL P).map mkB=ws:=⟨_,rfl⟩
        have HWS:=Lib.hid hws
        rw [hws] at hpl
        clear hpw hws
        go_wp2_with fail
        refine (HRW.out _).mono ?_
        rintro e w2 ⟨v,rfl,ho,hb⟩
        rw [HWS.out] at ho
        obtain ⟨av,cv,rfl⟩:=own_slice ho
        have hrow1:=row_below HOW.out hb
        have HW2:=Lib.hid (HWW.out.mono fun u m xs hu=>row_below hu hb)
        have HN2:=Lib.hid (HNX.out.trans (hb.mono HNX.out.size))
        have hsz2:w.heap.size≤w2.heap.size:=HN2.out.size
        have HO9:=Lib.hid (row_base ho HNX.out.size)
        have HR1:=Lib.hid hrow1
        clear ho hb hrow1
        go_wp2_with (at_builtin;refine wpList_append_own _ rfl _ _ 125 rfl w.heap.size 129 i0 (.agg #[.int .i64 0,.slice none 0 0]) 2 32 Tryz.underlying125 HI.out.1 HI.out.2.1 HI.out.2.2.1 HI.out.2.2.2 rfl (by decide) _ _ _ rfl (HR1.out.alloc _) ⟨w2.heap.size,0,none⟩ 1 1 [.int .i64 (n:Int),.slice av ws.length cv] rfl rfl (cell_two_new' _ _ _ _) (by intro u hu;simp at hu;rcases hu with rfl | rfl <;> rfl) (by unfold maxLen;omega) (by omega) (by simp;omega) ?_;intro v' w3 hown' hgrow _)
        have hK9:∀ (u:Value) (m:Nat) (xs:List Value),w2.ownsRow w.heap.size 9 1 u m xs→w3.ownsRow w.heap.size 9 1 u m xs:=fun u m xs hu =>
         (hu.alloc (.cells #[.int .i64 (n:Int),.slice av ws.length cv] 129)).kept hgrow (row_apart HR1.out hu (by decide))
        have HWF:Hid (WordsOwn w3 w.heap.size 9 (LV++[((n:Int),.slice av ws.length cv)]) (asB (out++numP [(n,P)]))):=Lib.hid (by
         rw [HP1.out,asB_append]
         have:asB [(n,wordsL P)]=[((n:Int),ws)]:=by simp [asB,HWS.out]
         rw [this]
         exact (HW2.out.mono hK9).snoc _ _ _ (hK9 _ _ _ HO9.out))
        have HOF:Hid (w3.ownsRow w.heap.size 129 2 v' (LV++[((n:Int),Value.slice av ws.length cv)]).length (flatL (LV++[((n:Int),Value.slice av ws.length cv)]))):=Lib.hid (by
         rw [flatL_snoc,List.length_append];exact hown')
        have HBF:=Lib.hid (below_grown (HN2.out.alloc hsz2 _) (by simp;omega) (HR1.out.alloc _) hgrow)
        clear hK9 hown' hgrow
        go_roundw
        case rel=>exact ⟨k2+1,k2+1,n+1,_,out++numP [(n,P)],by go_num,by go_num,by go_num,by rw [HSL.out];omega,by rw [HSL.out];omega,by omega,by rw [HP1.out];simp;omega,fun _=>⟨Nat.le_refl _,HNEW.out⟩,(fun h=>by rw [HSL.out] at h;omega),HOF.out,HWF.out,HBF.out⟩
        case measure=>simp [intOf];omega
      ·have HNEW:Hid (linesL s.data.toList=out++numP (enumL n (linesGo (pieceL s.data.toList (f,k2+1)) (s.data.toList.drop (k2+1))))):=Lib.hid (by
        rw [HL.out,hdr]
        have hc:s[k2]≠10:=fun e=>h10 (by rw [e];rfl)
        have hpc:pieceL s.data.toList (f,k2)++[s[k2]]=pieceL s.data.toList (f,k2+1):=by
         have:=pieceL_snoc s.data.toList f k2 hfk (by rw [HSL.out];exact hkl)
         rw [←this];rfl
        simp only [linesGo,if_neg hc]
        rw [hpc])
       have hb10:((s[k2].toNat:Int)==10)=false:=by rw [beq_eq_false_iff_ne];omega
       clear hdr hke h10
       go_wp2
       go_roundw
       case rel=>exact ⟨k2+1,f,n,LV,out,by go_num,rfl,rfl,by rw [HSL.out];omega,by rw [HSL.out];omega,by omega,by omega,fun _=>⟨by omega,HNEW.out⟩,(fun h=>by rw [HSL.out] at h;omega),HOW.out,HWW.out,HNX.out⟩
       case measure=>simp [intOf];omega
    ·have hke:k2=s.size+1:=by omega
     have HFIN:Hid (WordsOwn wr w.heap.size 9 LV RV):=Lib.hid (by
      rw [←HRV'.out,HEN.out hke]
      exact HWW.out)
     clear hke
     go_wp2
     go_ret2
     exact ⟨_,LV,by rw [HRE'.out];rfl,HOW.out,HFIN.out,HNX.out⟩
theorem rlines_had (s:ByteArray) (w:World) (hs:s.size≤30000) :
 Calls Tryz.prog 53 #[.string s] w (LinesHad w (asB (linV s.data.toList)) (linE s.data.toList)):=by
 have hl:=size_list s
 by_cases h:20000 < s.size
 ·obtain ⟨e1,e2⟩:=linE_big s.data.toList (by omega)
  rw [e1,e2]
  exact rlines_big s w h hs
 ·have h1:=rlines_small s w (by omega)
  cases ho:okL s.data.toList with
  | false =>
    obtain ⟨e1,e2⟩:=linE_bad s.data.toList (by omega) ho
    rw [e1,e2]
    rwa [ho] at h1
  | true =>
    obtain ⟨e1,e2⟩:=linE_ok s.data.toList (by omega) ho
    rw [e1,e2]
    rwa [ho] at h1
end Go.Proofs.YtfhhihamndbcnaaGreatDoor
end
section
namespace Go.Proofs.YtfhhihamndbcnaaGreatDoor.Fa
open Go.Shelf Go.RowKit Go.Lib Go.Sort
section
variable {α:Type} [Inhabited α] {enc:α→List Value} {K:Nat}
theorem sortedK_below {w W:World} {g B:Nat} {d:Array α} (h:SWK enc K w g 0 d W) (hB:B≤g) (hg:g < w.heap.size):RowKit.Below B w W:=by
 obtain ⟨q,os,rfl⟩:=h
 unfold sortWorldK putRowK
 refine ⟨rfl,rfl,rfl,by simp [putRow,mapBlock,Sort.ahead,grow],fun k hk=>?_⟩
 rw [heap_grow_old _ _ (by simp [putRow,mapBlock,Sort.ahead];omega)]
 have:g≠k:=by omega
 simp [putRow,mapBlock,Sort.ahead,Array.getElem?_modify,this]
theorem sortedK_other {w W:World} {g:Nat} {d:Array α} (hS:SWK enc K w g 0 d W) {b o:Nat} (hb:b≠g) {v:Value} (h:w.cell? ⟨b,o,none⟩=some v):W.cell? ⟨b,o,none⟩=some v:=by
 obtain ⟨q,os,rfl⟩:=hS
 have hlt:=World.block_lt_of_cell? w _ h
 rw [←h]
 unfold sortWorldK putRowK World.cell?
 rw [heap_grow_old _ _ (by simp [putRow,mapBlock,Sort.ahead];exact hlt)]
 have:g≠b:=fun e=>hb e.symm
 simp [putRow,mapBlock,Sort.ahead,Array.getElem?_modify,this]
end
def encT (x:Fact × Nat):List Value:=encF.cs x.1
theorem encT_one (x:Fact × Nat):∀ v∈encT x,v.oneCell'=true:=encF.one x.1
theorem holds_own {w:World} {B e g n c:Nat} {L:List Fact} (h:w.ownsRow B e 6 (.slice (some ⟨g,0,none⟩) n c) L.length (flat encF L)):HoldsK encT 6 w g 0 (tagL L):=by
 have h0:=h
 rcases h.2 with ⟨e0,_⟩ | ⟨g',cap,cur,e0,_,hh,_⟩
 ·cases e0
 ·cases e0
  intro t ht
  rw [size_flatK,tag_size] at ht
  have hi:t / 6 < L.length:=by omega
  rw [get_flatK _ _ _ _ (by rw [tag_size];exact ht),tag_at L _ hi]
  have hj:t % 6 < (encF.cs L[t / 6]).length:=by rw [encF.len];exact Nat.mod_lt _ (by decide)
  refine ⟨?_,by simp [World.frozen?,hh]⟩
  have:=h0.cells (g:=g) rfl _ _ (flat_at L (t / 6) _ (List.getElem?_eq_getElem hi) (t % 6) _ (List.getElem?_eq_getElem hj))
  rw [add_off] at this
  have e:0+(t / 6 * encF.k+t % 6)=0+t:=by
   show 0+(t / 6 * 6+t % 6)=0+t
   omega
  rw [e] at this
  rw [this]
  show _=some ((encF.cs L[t / 6])[t % 6]!)
  rw [getElem!_pos (encF.cs L[t / 6]) (t % 6) hj]
theorem facts_of_holds {w:World} {g n c:Nat} {d:Array (Fact × Nat)} (h:HoldsK encT 6 w g 0 d) (hs:d.size=n) (hc:n≤c) (hm:c≤maxLen):FactsV w (.slice (some ⟨g,0,none⟩) n c) (d.toList.map Prod.fst):=by
 refine ⟨_,c,by simp [hs],by simpa [hs] using hc,hm,(fun e=>by cases e),fun i x hx=>⟨g,0,rfl,fun j v hj=>?_⟩⟩
 have hjl:j < (encF.cs x).length:=(List.getElem?_eq_some_iff.1 hj).1
 rw [encF.len] at hjl
 rw [List.getElem?_map] at hx
 cases hy:d.toList[i]? with
 | none=>rw [hy] at hx;cases hx
 | some y =>
   rw [hy] at hx
   cases hx
   have hi:i < d.size:=by have:=(List.getElem?_eq_some_iff.1 hy).1;simpa using this
   have e:d[i]! = y:=by
    rw [getElem!_pos d i hi]
    have:=(List.getElem?_eq_some_iff.1 hy).2
    simpa using this
   have:=(HoldsK.cell h hi (c:=j) hjl).1
   rw [e] at this
   rw [show encF.k=6 from rfl,this]
   congr 1
   unfold encT
   rw [getElem!_pos (encF.cs y.1) j (by rw [encF.len];exact hjl)]
   exact (List.getElem?_eq_some_iff.1 hj).2
theorem cmpLaysT (blk off size:Nat) (w:World):CmpLays Tryz.prog 104 #[] encT 6 cfT blk off size w :=
 fun _ _ _ _ x y=>closure_any x.1 y.1 _
set_option maxHeartbeats 1000000 in
theorem ins_none (p:Option Addr) (c:Nat) (f:Value) (w:World):Calls Tryz.prog 165 #[.slice p 0 c,.int .i64 0,.int .i64 0,f] w fun e w'=>e=.returned (.tuple #[])∧w'=w:=by
 go_enter Tryz.func165,Tryz.ntmps165
 go_wp2
 refine wp_loop_rounds 1 ?_
 rw [rounds_succ]
 go_wp2
 go_end0
 exact ⟨rfl,rfl⟩
set_option maxHeartbeats 1000000 in
theorem stable_none (p:Option Addr) (c:Nat) (f:Value) (w:World):Calls Tryz.prog 137 #[.slice p 0 c,.int .i64 0,f] w fun e w'=>e=.returned (.tuple #[])∧w'=w:=by
 go_enter Tryz.func137,Tryz.ntmps137
 go_wp2
 refine wp_loop_rounds 1 ?_
 rw [rounds_succ]
 go_wp2_with fail
 refine (ins_none _ _ _ _).mono ?_
 rintro e w' ⟨rfl,rfl⟩
 go_wp2
 refine wp_loop_rounds 1 ?_
 rw [rounds_succ]
 go_wp2
 go_end0
 exact ⟨rfl,rfl⟩
set_option maxHeartbeats 1000000 in
theorem sort_none (p:Option Addr) (c:Nat) (f:Value) (w:World):Calls Tryz.prog 103 #[.slice p 0 c,f] w fun e w'=>e=.returned (.tuple #[])∧w'=w:=by
 go_enter Tryz.func103,Tryz.ntmps103
 go_wp2_with fail
 refine (stable_none _ _ _ _).mono ?_
 rintro e w' ⟨rfl,rfl⟩
 go_wp2
 go_end0
 exact ⟨rfl,rfl⟩
def HasS (lo:Nat) (W:World) (B:Nat) (S:List Fact):Prop :=
 ∃ p c,W.cell? ⟨B,0,none⟩=some (.slice p S.length c)∧FactsV W (.slice p S.length c) S∧(∀ a,p=some a→lo≤a.block∧a.block < W.heap.size)∧lo≤B∧B < W.heap.size
def ByKeyTold (w:World) (L:List Fact) (e:Ending) (w':World):Prop :=
 ∃ B,e=.returned (.func (.func 105) #[] #[.pointer (some ⟨B,0,none⟩)])∧HasS w.heap.size w' B (sortedL L)∧RowKit.Below w.heap.size w w'
set_option maxHeartbeats 4000000 in
theorem byKey_any (v:Value) (L:List Fact) (w:World) (h:FactsV w v L) (hL:L.length≤1000) :
 Calls Tryz.prog 65 #[v] w (ByKeyTold w L):=by
 have HC:=Lib.hid (clone_any v L w h hL)
 obtain ⟨n,hn⟩:∃ n,L.length=n:=⟨_,rfl⟩
 have HN:=Lib.hid hn
 clear h
 go_enter Tryz.func65,Tryz.ntmps65
 go_wp2_with fail
 refine HC.out.mono ?_
 rintro e w1 ⟨u,rfl,hrow,hb⟩
 have HROW:=Lib.hid hrow
 have HB:=Lib.hid hb
 have hrow2:=hrow
 rcases hrow2.2 with ⟨rfl,h0⟩ | ⟨g,cap,cur,rfl,hg,hh,hnc,hcm,hcs,hct⟩
 ·have e0:L=[]:=List.eq_nil_of_length_eq_zero h0
  have HE:=Lib.hid e0
  clear hrow hrow2 hb h0 e0 HROW
  go_wp2_with fail
  refine (sort_none _ _ _ _).mono ?_
  rintro e w2 ⟨rfl,rfl⟩
  go_wp2
  go_ret
  refine ⟨_,rfl,⟨none,0,?_,?_,(fun a e=>by cases e),HB.out.size,by simp⟩,HB.out.trans ((((RowKit.Below.refl _ w1).alloc (Nat.le_refl _) _)).mono HB.out.size)⟩
  ·rw [HE.out,cell_of_row _ w1.heap.size 0 _ _ (0,0) (heap_alloc_new w1 _)];rfl
  ·rw [HE.out];exact ElsV.nil _
 ·have hlt:g < w1.heap.size:=(Array.getElem?_eq_some_iff.1 hh).1
  have hn1:n < 100000:=by omega
  obtain ⟨W2,hW2⟩:∃ W2,w1.alloc (.cells #[.slice (some ⟨g,0,none⟩) L.length cap] 41)=W2:=⟨_,rfl⟩
  have hs2:W2.heap.size=w1.heap.size+1:=by rw [←hW2,World.size_alloc]
  have hB2:RowKit.Below w1.heap.size w1 W2:=by rw [←hW2];exact (RowKit.Below.refl _ w1).alloc (Nat.le_refl _) _
  have hr2:W2.ownsRow w.heap.size 62 6 (.slice (some ⟨g,0,none⟩) L.length cap) L.length (flat encF L):=by rw [←hW2];exact hrow.alloc _
  have hc2:W2.cell? ⟨w1.heap.size,0,none⟩=some (.slice (some ⟨g,0,none⟩) L.length cap):=by
   rw [←hW2,cell_of_row _ w1.heap.size 0 _ _ (0,0) (heap_alloc_new w1 _)];rfl
  have R:RowK encT 6 W2 g 0 (tagL L):=⟨fun x=>encF.len x.1,encT_one,holds_own hr2,by omega⟩
  have HS:=Lib.hid (sortStableK sortL encT cfT TT TT_trans (fun x=>x.2) tellsT 104 #[] g 0 cap n (tagL L) W2 W2 (enters_of Tryz.func104 (by kernel_rfl) rfl) (cmpLaysT _ _ _ _) R (by rw [tag_size,hn]) (SWK.start R.hH) hn1 (fun i hi=>by rw [tag_at L i (by omega)]))
  have HB2:=Lib.hid hB2
  have HC2:=Lib.hid hc2
  have HR:=Lib.hid R
  have HSZ:=Lib.hid hs2
  have HLT:=Lib.hid hlt
  have HG:=Lib.hid hg
  have HCM:=Lib.hid (And.intro hnc hcm)
  clear hrow hrow2 hb hg hh hnc hcm hcs hct hB2 hr2 R hs2 hlt HROW
  rw [hn] at hW2 hc2 HC2 HCM
  go_wp2_with fail
  refine HS.out.mono ?_
  rintro e w3 ⟨rfl,d,h1,h2,h4,h3⟩
  have hd:d.toList.map Prod.fst=sortedL L:=sorted_of L d (by rw [h1,hn]) (by rw [hn];exact h2) (by rw [hn];exact h4)
  have hlen:(sortedL L).length=n:=by rw [←hd];simp [h1]
  have hh3:=h3.holds HR.out.hblk HR.out.hH (by rw [h1,tag_size,hn])
  have hF:=facts_of_holds hh3 h1 HCM.out.1 HCM.out.2
  rw [hd] at hF
  have hne:w1.heap.size≠g:=by have:=HLT.out;omega
  have hcell:=sortedK_other h3 hne HC2.out
  have hb3:=sortedK_below h3 (B:=w.heap.size) HG.out HR.out.hblk
  have H:Hid (HasS w.heap.size w3 w1.heap.size (sortedL L)):=Lib.hid ⟨some ⟨g,0,none⟩,cap,by rw [hlen];exact hcell,by rw [hlen];exact hF,(fun a e=>by cases e;exact ⟨HG.out,h3.lt HR.out.hblk⟩),HB.out.size,World.block_lt_of_cell? _ _ hcell⟩
  have HB3:=Lib.hid (HB.out.trans ((HB2.out.mono HB.out.size).trans hb3))
  clear hd hlen hh3 hF hne hcell hb3 h1 h2 h3 h4 hW2 hc2
  go_wp2
  go_ret
  exact ⟨_,rfl,H.out,HB3.out⟩
end Go.Proofs.YtfhhihamndbcnaaGreatDoor.Fa
end
section
namespace Go.Proofs.YtfhhihamndbcnaaGreatDoor.Fa
open Go.RowKit Go.Shelf
attribute [local go_sem] Oper.semAt_some
structure GX where
 k:Key
 a:Option Addr
 c:Nat
 ns:List Int
def GX.grp (x:GX):Key × List Int:=(x.k,x.ns)
def encG (x:GX):Array Value:=#[aggK x.k,.slice x.a x.ns.length x.c]
def RG (G:List (Key × List Int)) (pre:List GX) (x:GX) (W:World):Prop:=(∃ G',G=pre.map GX.grp++x.grp::G')∧RowIs .i64 W x.a x.ns.length x.ns
def HasSI (lo hi:Nat) (W:World) (B:Nat) (S:List Fact):Prop :=
 ∃ p c,W.cell? ⟨B,0,none⟩=some (.slice p S.length c)∧FactsV W (.slice p S.length c) S∧(∀ a,p=some a→lo≤a.block∧a.block < hi)∧lo≤B∧B < hi
def KpB (lo hi:Nat) (W W':World):Prop:=W.heap.size≤W'.heap.size∧∀ k,lo≤k→k < hi→W'.heap[k]?=W.heap[k]?
theorem HasSI.keep {lo hi B:Nat} {W W':World} {S:List Fact} (h:HasSI lo hi W B S) (hk:KpB lo hi W W'):HasSI lo hi W' B S:=by
 obtain ⟨p,c,h1,h2,h3,h4,h5⟩:=h
 have hcell:∀ b o v,lo≤b→b < hi→W.cell? ⟨b,o,none⟩=some v→W'.cell? ⟨b,o,none⟩=some v:=fun b o v hb1 hb2 hc=>by
  rw [←hc]
  unfold World.cell?
  rw [hk.2 b hb1 hb2]
 refine ⟨p,c,hcell _ _ _ h4 h5 h1,?_,h3,h4,h5⟩
 obtain ⟨p',c',e,k1,k2,k3,k4⟩:=h2
 cases e
 refine ⟨p,c,rfl,k1,k2,k3,fun i x hx=>?_⟩
 obtain ⟨b,o,e,hat⟩:=k4 i x hx
 obtain ⟨q1,q2⟩:=h3 _ e
 exact ⟨b,o,e,fun j v hj=>hcell _ _ _ q1 q2 (hat j v hj)⟩
theorem kpB_below {lo hi B:Nat} {W W':World} (h:Below B W W') (hB:hi≤B):KpB lo hi W W':=⟨h.size,fun k _ hk=>h.block k (by omega)⟩
theorem kpB_trans {lo hi:Nat} {A B C:World} (h:KpB lo hi A B) (k:KpB lo hi B C):KpB lo hi A C:=⟨Nat.le_trans h.1 k.1,fun i h1 h2=>(k.2 i h1 h2).trans (h.2 i h1 h2)⟩
theorem flatG_append (A B:List (Key × List Int)):flatG (A++B)=flatG A++flatG B:=by simp [flatG]
theorem flatG_cons (g:Key × List Int) (B:List (Key × List Int)):flatG (g::B)=g.2.map (Fact.mk g.1)++flatG B:=by simp [flatG]
theorem flatG_in {A B:List (Key × List Int)} {k:Key} {ns:List Int} {at_ q:Nat} (ha:(flatG A).length=at_) (h1:at_≤q) (h2:q < at_+ns.length):∃ x,ns[q - at_]?=some x∧(flatG (A++(k,ns)::B))[q]?=some ⟨k,x⟩:=by
 have hq:q - at_ < ns.length:=by omega
 refine ⟨ns[q - at_],List.getElem?_eq_getElem hq,?_⟩
 rw [flatG_append,flatG_cons,List.getElem?_append_right (by omega),ha,List.getElem?_append_left (by simpa using hq),List.getElem?_map,List.getElem?_eq_getElem hq]
 rfl
theorem flatG_next {A B:List (Key × List Int)} {k:Key} {ns:List Int} {at_:Nat} (hG:GrpsOk (A++(k,ns)::B)) (ha:(flatG A).length=at_) {f:Fact} (hf:(flatG (A++(k,ns)::B))[at_+ns.length]?=some f):f.key≠k:=by
 rw [flatG_append,flatG_cons,List.getElem?_append_right (by omega),ha,List.getElem?_append_right (by simp)] at hf
 have hm:=List.mem_of_getElem? hf
 unfold flatG at hm
 obtain ⟨g,hg,hm⟩:=List.mem_flatMap.1 hm
 obtain ⟨x,_,rfl⟩:=List.mem_map.1 hm
 have hr:=(List.pairwise_append.1 hG.rise).2.1
 have:=(List.pairwise_cons.1 hr).1 g hg
 exact fun e=>ltK_ne this e.symm
theorem infoI:InfoE Tryz.prog 136 2 encI:=.of (z:=.int .i64 0) (n:=8) Tryz.underlying136 (by kernel_rfl) rfl (by decide)
def IterG (G:List (Key × List Int)) (lo hi B:Nat) (J:List GX→World→Prop) (s3:Value) (wr:World):Prop :=
 ∃ (pre:List GX) (G2:List (Key × List Int)) (q:Nat),G=pre.map GX.grp++G2∧(flatG (pre.map GX.grp)).length=q∧s3=.int .i64 (q:Int)∧J pre wr∧HasSI lo hi wr B (flatG G)∧hi≤wr.heap.size
set_option maxRecDepth 100000 in
set_option maxHeartbeats 4000000 in
theorem iter_told (n:Nat) (hn:1≤n) (lo hi B:Nat) (G:List (Key × List Int)) (hG:GrpsOk G) (hlen:(flatG G).length≤1000) (w:World) (hS:HasSI lo hi w B (flatG G)) (hhi:hi≤w.heap.size) :
 SeqTold Fence.wide n Tryz.prog 105 #[.pointer (some ⟨B,0,none⟩)] encG (KpB lo hi) (RG G) (fun xs=>xs.map GX.grp=G) (fun _=>True) w:=by
 intro l J Jx W hW hJ hJx hY h0
 have HY:=Lib.hid hY
 have HJ:=Lib.hid hJ
 have HG:=Lib.hid hG
 have hS0:=hS.keep (kpB_below hW hhi)
 have hhi0:hi≤W.heap.size:=Nat.le_trans hhi hW.size
 obtain ⟨N,hN⟩:∃ N,(flatG G).length=N:=⟨_,rfl⟩
 have HN:=Lib.hid hN
 rw [hN] at hlen
 clear hY hJ hJx hG hS hhi hW hN
 refine callsIn_of_wp Tryz.func105 rfl trivial ?_ rfl
 simp only [Tryz.ntmps105,List.size_toArray,List.length_cons,List.length_nil,Nat.reduceAdd,Nat.reduceSub,Array.replicate_succ,Array.replicate_zero,List.push_toArray,List.append_toArray,List.nil_append,List.cons_append]
 gi_wp2
 gi_loopw [3] (fun s3 wr=>IterG G lo hi B J s3 wr) (fun s3 _=>N - (intOf s3).toNat)
 case atStart=>exact ⟨[],G,0,rfl,rfl,rfl,h0,hS0,hhi0⟩
 case round =>
  obtain ⟨pre,G2,q,hG2,hq,rfl,hJs,hS1,hh1⟩:=hrel
  rename World=>wa
  have HQ:=Lib.hid hq
  have HG2:=Lib.hid hG2
  have HSI:=Lib.hid hS1
  obtain ⟨p,c,hc1,hF,hp,hB1,hB2⟩:=hS1
  clear hq hS0 hhi0 h0 hG2
  cases G2 with
  | nil =>
    have hqn:q=N:=by rw [←HQ.out,←HN.out,HG2.out];simp
    subst hqn
    rw [HN.out] at hc1
    gi_wp2
    go_end0
    exact ⟨⟨_,rfl⟩,.inl ⟨pre,by rw [HG2.out];simp,hJs⟩⟩
  | cons g G3 =>
    obtain ⟨k,ns⟩:=g
    have has:0 < ns.length:=List.length_pos_iff.2 (HG.out.some (k,ns) (by rw [HG2.out];simp))
    have hmore:q < N:=by rw [←HN.out,HG2.out,flatG_append,flatG_cons];simp;rw [HQ.out];omega
    obtain ⟨x0,_,hx0⟩:=flatG_in (B:=G3) (k:=k) (ns:=ns) HQ.out (Nat.le_refl q) (by omega)
    rw [←HG2.out] at hx0
    obtain ⟨b,o,rfl,hat0⟩:=ElsV.at_ hF hx0
    obtain ⟨r0,r1,r2,r3,r4,r5⟩:=fact6 hat0
    rw [HN.out] at hc1 hF
    have HF0:=Lib.hid hF
    clear hat0 hx0 hF r5
    simp only [show encF.k=6 from rfl] at r0 r1 r2 r3 r4
    gi_wp2_with fail
    obtain ⟨W1,hW1⟩:∃ W1,wa.alloc (.cells #[.string k.e,.string k.a,.string k.f,.string k.p,.int .i64 k.m] 60)=W1:=⟨_,rfl⟩
    rw [hW1]
    have HX:Hid (BoxE encK W1 wa.heap.size 60 k):=Lib.hid (by rw [←hW1];exact BoxE.new encK wa k 60)
    have HB1:Hid (Below wa.heap.size wa W1):=Lib.hid (by rw [←hW1];exact (Below.refl _ wa).alloc (Nat.le_refl _) _)
    have HS1:Hid (W1.heap.size=wa.heap.size+1):=Lib.hid (by rw [←hW1,World.size_alloc])
    have HP:=Lib.hid hp
    have HC1:=Lib.hid hc1
    have HIN:=Lib.hid hB2
    have HJS:=Lib.hid hJs
    clear hW1 r0 r1 r2 r3 r4 hp hc1 hB1 hB2 hJs
    have HSZ:=Lib.hid hh1
    refine wpIn_wide.2 ?_
    go_loopw [3,5] (fun s3 s5 wr=>∃ j:Nat,s3=.int .i64 (j:Int)∧q≤j∧j≤q+ns.length∧Hid (wr.ownsRow (wa.heap.size+1) 2 1 s5 (ns.take (j - q)).length (flat encI (ns.take (j - q))))∧Hid (Below (wa.heap.size+1) W1 wr)) (fun s3 _ _=>N - (intOf s3).toNat)
    case atStart=>exact ⟨q,rfl,Nat.le_refl _,Nat.le_add_right _ _,by rw [Nat.sub_self];exact World.ownsRow_nil _ _ _ _,Lib.hid (Below.refl _ _)⟩
    case round =>
     obtain ⟨j,rfl,hj1,hj2,HO,HBW⟩:=hrel
     have HBW2:=Lib.hid (HB1.out.trans (HBW.out.mono (Nat.le_succ _)))
     have hcb:wr.cell? ⟨B,0,none⟩=some (.slice (some ⟨b,o,none⟩) N c):=(HBW2.out.cell (p:=⟨B,0,none⟩) (by show B < wa.heap.size;have:=HIN.out;have:=HSZ.out;omega)).trans HC1.out
     obtain ⟨k0,k1,k2,k3,k4⟩:=key5 (HX.out.at0.keep HBW.out (Nat.lt_succ_self _))
     simp only [Nat.zero_add] at k0 k1 k2 k3 k4
     have gk:=guard_key
     by_cases hlt:j < q+ns.length
     ·obtain ⟨x,hx,hfx⟩:=flatG_in (B:=G3) (k:=k) (ns:=ns) HQ.out hj1 hlt
      rw [←HG2.out] at hfx
      obtain ⟨b',o',e,hat⟩:=ElsV.at_ HF0.out hfx
      cases e
      have hjN:j < N:=by rw [←HN.out];exact (List.getElem?_eq_some_iff.1 hfx).1
      obtain ⟨r0,r1,r2,r3,r4,r5⟩:=fact6 (hat.keep HBW2.out hat.lt)
      simp only [show encF.k=6 from rfl] at r0 r1 r2 r3 r4 r5
      have htk:ns.take (j+1 - q)=ns.take (j - q)++[x]:=by
       rw [show j+1 - q=(j - q)+1 by omega,List.take_add_one,hx];rfl
      have HTK:=Lib.hid htk
      have hq:∀ W,Sem.run Tryz.prog (binOp .eql 60 (aggK k) (aggK k)) W=.ok (.bool true) W:=fun W=>by rw [eql_key];simp [eqK]
      have hd:decide ((j:Int) < (N:Int))=true:=decide_eq_true (by omega)
      have hjz:(j:Int) < (N:Int):=by omega
      clear hfx hat hx htk
      go_wp2_with fail
      go_big_quiet (fail)
      have hcb2:(wr.drewN nq).cell? ⟨B,0,none⟩=some (.slice (some ⟨b,o,none⟩) N c):=hcb
      have r52:(wr.drewN nq).cell? ⟨b,o+j * 6+5,none⟩=some (.int .i64 x):=r5
      have HO2:Hid ((wr.drewN nq).ownsRow (wa.heap.size+1) 2 1 u5 (ns.take (j - q)).length (flat encI (ns.take (j - q)))):=HO
      have HBW3:Hid (Below (wa.heap.size+1) W1 (wr.drewN nq)):=Lib.hid (belowN HBW.out nq)
      clear hcb r0 r1 r2 r3 r4 r5 HO HBW HBW2 k0 k1 k2 k3 k4 hq gk
      generalize wr.drewN nq=w2 at *
      go_wp2_with (at_builtin;refine wpList_append_el (E:=encI) rfl _ _ 136 2 rfl infoI (wa.heap.size+1) (ns.take (j - q)) x w2.heap.size (HO2.out.alloc _) rfl (el_new encI w2 x _) (by have:=HBW3.out.size;have:=HS1.out;simp;omega) (by simp;omega) ?_;intro v9 w9 hr9 hb9 hg9)
      have HR9:Hid (w9.ownsRow (wa.heap.size+1) 2 1 v9 (ns.take (j+1 - q)).length (flat encI (ns.take (j+1 - q)))):=Lib.hid (by rw [HTK.out];exact hr9)
      have HB9:Hid (Below (wa.heap.size+1) W1 w9):=Lib.hid ((HBW3.out.trans (((Below.refl w2.heap.size w2).alloc (Nat.le_refl _) _).mono (by have:=HBW3.out.size;have:=HS1.out;omega))).trans hb9)
      clear hr9 hb9 hg9
      go_wp2
      go_roundw
      case rel=>exact ⟨j+1,by go_num,by omega,by omega,HR9,HB9⟩
      case measure=>simp [intOf];omega
     ·obtain rfl:j=q+ns.length:=by omega
      have htk:ns.take (q+ns.length - q)=ns:=by rw [Nat.add_sub_cancel_left,List.take_length]
      rw [htk] at HO
      have hE:=els_of_own (E:=encI) HO.out
      obtain ⟨p9,c9,e9,_⟩:=id hE
      have HE:=Lib.hid hE
      subst e9
      have hc9:(q:Int)+(ns.length:Int)=((q+ns.length:Nat):Int):=by omega
      by_cases hjN:q+ns.length < N
      ·obtain ⟨f,hf⟩:∃ f,(flatG G)[q+ns.length]?=some f:=⟨_,List.getElem?_eq_getElem (by rw [HN.out];exact hjN)⟩
       obtain ⟨b',o',e,hat⟩:=ElsV.at_ HF0.out hf
       cases e
       have hne:f.key≠k:=by rw [HG2.out] at hf;exact flatG_next (by rw [←HG2.out];exact HG.out) HQ.out hf
       obtain ⟨r0,r1,r2,r3,r4,r5⟩:=fact6 (hat.keep HBW2.out hat.lt)
       obtain ⟨j,hj⟩:∃ j,q+ns.length=j:=⟨_,rfl⟩
       have HJJ:=Lib.hid hj
       rw [hj] at r0 r1 r2 r3 r4 hjN hf ⊢
       clear hj
       simp only [show encF.k=6 from rfl] at r0 r1 r2 r3 r4
       have hq:∀ W,Sem.run Tryz.prog (binOp .eql 60 (aggK f.key) (aggK k)) W=.ok (.bool false) W:=fun W=>by rw [eql_key];simp [eqK,hne]
       have hd:decide ((j:Int) < (N:Int))=true:=decide_eq_true (by omega)
       have hjz:(j:Int) < (N:Int):=by omega
       clear hf hat r5 hne
       go_wp2_with fail
       go_big_quiet (fail)
       go_wp2_with fail
       clear hq hd hjz r0 r1 r2 r3 r4
       have HE2:Hid (ElsV encI (wr.drewN nq) (.slice p9 ns.length c9) ns):=HE
       have HBW4:Hid (Below wa.heap.size wa (wr.drewN nq)):=Lib.hid (belowN HBW2.out nq)
       have k02:(wr.drewN nq).cell? ⟨wa.heap.size,0,none⟩=some (.string k.e):=k0
       have k12:(wr.drewN nq).cell? ⟨wa.heap.size,1,none⟩=some (.string k.a):=k1
       have k22:(wr.drewN nq).cell? ⟨wa.heap.size,2,none⟩=some (.string k.f):=k2
       have k32:(wr.drewN nq).cell? ⟨wa.heap.size,3,none⟩=some (.string k.p):=k3
       have k42:(wr.drewN nq).cell? ⟨wa.heap.size,4,none⟩=some (.int .i64 k.m):=k4
       clear hcb HE HBW HBW2 HO k0 k1 k2 k3 k4 gk
       generalize wr.drewN nq=w2 at *
       obtain ⟨fn,tmps,assign,body,hy,hR⟩:=HY.out pre ⟨k,p9,c9,ns⟩ w2 (HJ.out pre wa w2 HJS.out HBW4.out) ⟨⟨G3,HG2.out⟩,rowIs_els HE2.out⟩
       unfold encG at hy
       gi_wp2
       refine hR.mono ?_
       rintro e W3 (⟨rfl,hJ3,hk3⟩ | ⟨rfl,hJx3⟩)
       ·gi_wp2
        go_roundw
        case rel=>exact ⟨pre++[⟨k,p9,c9,ns⟩],G3,j,by rw [HG2.out];simp [GX.grp],by rw [List.map_append,flatG_append,List.length_append,HQ.out,←HJJ.out];simp [flatG,GX.grp],rfl,hJ3,(HSI.out.keep (kpB_below HBW4.out HSZ.out)).keep hk3,Nat.le_trans (Nat.le_trans HSZ.out HBW4.out.size) hk3.1⟩
        case measure=>simp [intOf];have:=HJJ.out;omega
       ·gi_wp2
        refine bodyPost_ret (results_none rfl _ _ _) rfl ?_
        exact ⟨⟨_,rfl⟩,.inr ⟨_,trivial,hJx3⟩⟩
      ·obtain ⟨j,hj⟩:∃ j,q+ns.length=j:=⟨_,rfl⟩
       have HJJ:=Lib.hid hj
       rw [hj] at hjN ⊢
       have hd:decide ((j:Int) < (N:Int))=false:=decide_eq_false (by omega)
       have hjz:¬ (j:Int) < (N:Int):=by omega
       clear hj
       go_wp2_with fail
       go_big_quiet (fail)
       go_wp2_with fail
       clear hd hjz
       have HE2:Hid (ElsV encI (wr.drewN nq) (.slice p9 ns.length c9) ns):=HE
       have HBW4:Hid (Below wa.heap.size wa (wr.drewN nq)):=Lib.hid (belowN HBW2.out nq)
       have k02:(wr.drewN nq).cell? ⟨wa.heap.size,0,none⟩=some (.string k.e):=k0
       have k12:(wr.drewN nq).cell? ⟨wa.heap.size,1,none⟩=some (.string k.a):=k1
       have k22:(wr.drewN nq).cell? ⟨wa.heap.size,2,none⟩=some (.string k.f):=k2
       have k32:(wr.drewN nq).cell? ⟨wa.heap.size,3,none⟩=some (.string k.p):=k3
       have k42:(wr.drewN nq).cell? ⟨wa.heap.size,4,none⟩=some (.int .i64 k.m):=k4
       clear hcb HE HBW HBW2 HO k0 k1 k2 k3 k4 gk
       generalize wr.drewN nq=w2 at *
       obtain ⟨fn,tmps,assign,body,hy,hR⟩:=HY.out pre ⟨k,p9,c9,ns⟩ w2 (HJ.out pre wa w2 HJS.out HBW4.out) ⟨⟨G3,HG2.out⟩,rowIs_els HE2.out⟩
       unfold encG at hy
       gi_wp2
       refine hR.mono ?_
       rintro e W3 (⟨rfl,hJ3,hk3⟩ | ⟨rfl,hJx3⟩)
       ·gi_wp2
        go_roundw
        case rel=>exact ⟨pre++[⟨k,p9,c9,ns⟩],G3,j,by rw [HG2.out];simp [GX.grp],by rw [List.map_append,flatG_append,List.length_append,HQ.out,←HJJ.out];simp [flatG,GX.grp],rfl,hJ3,(HSI.out.keep (kpB_below HBW4.out HSZ.out)).keep hk3,Nat.le_trans (Nat.le_trans HSZ.out HBW4.out.size) hk3.1⟩
        case measure=>simp [intOf];have:=HJJ.out;omega
       ·gi_wp2
        refine bodyPost_ret (results_none rfl _ _ _) rfl ?_
        exact ⟨⟨_,rfl⟩,.inr ⟨_,trivial,hJx3⟩⟩
end Go.Proofs.YtfhhihamndbcnaaGreatDoor.Fa
end
section
namespace Go.Proofs.YtfhhihamndbcnaaGreatDoor.Fa
open Go.RowKit Go.Shelf
attribute [local go_sem] Oper.semAt_some
def accG (A:List (Key × List Int)):List Fact:=A.flatMap fun g=>putF g.1 (sumFrom 0 g.2).1
def okG (A:List (Key × List Int)):Prop:=∀ g∈A,(sumFrom 0 g.2).2=0
theorem run_acc (A B:List (Key × List Int)) (h:okG A):runG (A++B)=appG (accG A) (runG B):=by
 have key:∀ (A B:List (Key × List Int)) (c:List Fact),okG A→appG c (runG (A++B))=appG (c++accG A) (runG B):=by
  intro A
  induction A with
  | nil=>intro B c _;simp [accG]
  | cons g A ih =>
    intro B c h
    rw [List.cons_append,appG_yes c g (A++B) (h g (List.mem_cons_self ..)),ih B _ fun x hx=>h x (List.mem_cons_of_mem _ hx)]
    simp [accG]
 have:=key A B [] h
 rwa [appG_none,List.nil_append] at this
theorem run_end (A:List (Key × List Int)) (h:okG A):runG A=(accG A,0):=by
 have:=run_acc A [] h
 rw [List.append_nil] at this
 rw [this];simp [runG,appG]
theorem run_err (A B:List (Key × List Int)) (g:Key × List Int) (h:okG A) (he:(sumFrom 0 g.2).2≠0):runG (A++g::B)=([],(sumFrom 0 g.2).2):=by rw [run_acc A _ h,appG_no _ _ _ he]
theorem acc_snoc (A:List (Key × List Int)) (g:Key × List Int):accG (A++[g])=accG A++putF g.1 (sumFrom 0 g.2).1:=by simp [accG]
theorem ok_snoc {A:List (Key × List Int)} {g:Key × List Int} (h:okG A) (hg:(sumFrom 0 g.2).2=0):okG (A++[g]):=by
 intro x hx
 rcases List.mem_append.1 hx with hx | hx
 ·exact h x hx
 ·simp at hx;subst hx;exact hg
theorem acc_length (A:List (Key × List Int)):(accG A).length≤A.length:=by
 induction A with
 | nil=>simp [accG]
 | cons g A ih =>
   have:accG (g::A)=putF g.1 (sumFrom 0 g.2).1++accG A:=by simp [accG]
   rw [this,List.length_append,List.length_cons]
   have:(putF g.1 (sumFrom 0 g.2).1).length≤1:=by unfold putF;split <;> simp
   omega
theorem grps_length (L:List Fact):(grps L).length≤L.length:=by unfold grps;rw [List.length_map];exact keys_length L
theorem grps_in64 {L:List Fact} (hz:∀ f∈L,In64 f.amt):∀ g∈grps L,∀ x∈g.2,In64 x:=by
 intro g hg x hx
 unfold grps at hg
 obtain ⟨k,_,rfl⟩:=List.mem_map.1 hg
 unfold amts at hx
 obtain ⟨f,hf,rfl⟩:=List.mem_map.1 hx
 exact hz f (List.mem_filter.1 hf).1
theorem flat_grps_length (L:List Fact):(flatG (grps L)).length=L.length:=by
 rw [←sorted_flat]
 unfold sortedL
 have key:∀ (K:List Key),Rise K→∀ L:List Fact,(K.flatMap fun k=>L.filter fun f=>decide (f.key=k)).length=(L.filter fun f=>decide (f.key∈K)).length:=by
  intro K
  induction K with
  | nil=>intro _ L;rw [List.filter_eq_nil_iff.2 (by simp)];rfl
  | cons k K ih =>
    intro h L
    obtain ⟨h1,h2⟩:=List.pairwise_cons.1 h
    rw [List.flatMap_cons,List.length_append,ih h2 L]
    clear ih
    induction L with
    | nil=>rfl
    | cons f L ihL =>
      by_cases e:f.key=k
      ·have hn:f.key ∉ K:=fun hm=>ltK_ne (h1 _ hm) e.symm
       simp only [List.filter_cons,e,decide_true,if_true,List.mem_cons,true_or] at ihL ⊢
       rw [e] at hn
       simp only [hn,decide_false,Bool.false_eq_true,if_false,List.length_cons]
       omega
      ·by_cases hm:f.key∈K
       ·simp only [List.filter_cons,e,hm,decide_false,decide_true,Bool.false_eq_true,if_false,if_true,List.mem_cons,false_or,List.length_cons] at ihL ⊢
        omega
       ·simp only [List.filter_cons,e,hm,decide_false,Bool.false_eq_true,if_false,List.mem_cons,or_self] at ihL ⊢
        exact ihL
 rw [key _ (rise_keys L) L,List.filter_eq_self.2 fun f hf=>decide_eq_true (mem_keys.2 ⟨f,hf,rfl⟩)]
theorem kept3 {W4 w9:World} {B1 C:Nat} {t:TypeId} {u v9 v':Value} {o:Obj} (h:Boxed W4 B1 t u) (hg:(W4.alloc o).grownBy w9 v'.ownBlock) (hn:some B1≠v'.ownBlock) (hne:B1≠C):Boxed (w9.setCell ⟨C,0,none⟩ v9) B1 t u:=((h.alloc o).kept hg hn).kept (grownBy_setCell' w9 C v9) (by simp [hne])
theorem row_ge {W:World} {B k:Nat} {e:TypeId} {s n:Nat} {v:Value} {xs:List Value} (h:W.ownsRow B e s v n xs) (hk:k < B):some k≠v.ownBlock:=by
 rcases h.2 with ⟨rfl,_⟩ | ⟨g,cap,cur,rfl,hg,_⟩
 ·simp [Value.ownBlock]
 ·simp [Value.ownBlock];omega
def CubeTold (w:World) (x:List Fact × Int) (e:Ending) (w':World):Prop :=
 ∃ u,e=.returned (.tuple #[u,.int .i64 x.2])∧FactsV w' u x.1∧Below w.heap.size w w'
def NewV (w:World) (v:Value):Prop:=∀ (ad:Addr) (n c:Nat),v=.slice (some ad) n c→0 < n→w.heap.size≤ad.block
theorem NewV.none (w:World) (n c:Nat):NewV w (.slice .none n c):=fun _ _ _ h=>by cases h
theorem NewV.own {w W:World} {B n s:Nat} {t:TypeId} {v:Value} {xs:List Value} (h:W.ownsRow B t s v n xs) (hB:w.heap.size≤B):NewV w v:=fun ad m c e _=>by
 rcases h.2 with ⟨rfl,_⟩ | ⟨g,cap,cur,rfl,hg,_⟩
 ·cases e
 ·cases e;show w.heap.size≤g;omega
theorem NewV.mono {w0 w:World} {v:Value} (h:NewV w v) (hs:w0.heap.size≤w.heap.size):NewV w0 v:=fun ad n c e hn=>Nat.le_trans hs (h ad n c e hn)
def CubeNew (w:World) (x:List Fact × Int) (e:Ending) (w':World):Prop :=
 ∃ u,e=.returned (.tuple #[u,.int .i64 x.2])∧FactsV w' u x.1∧Below w.heap.size w w'∧NewV w u
theorem CubeNew.told {w w':World} {x:List Fact × Int} {e:Ending} (h:CubeNew w x e w'):CubeTold w x e w':=by
 obtain ⟨u,h1,h2,h3,_⟩:=h
 exact ⟨u,h1,h2,h3⟩
def OfI (n0 hi:Nat) (pre:List GX) (W:World):Prop :=
 (∃ v,Boxed W (n0+1+1) 42 v∧W.ownsRow hi 62 6 v (accG (pre.map GX.grp)).length (flat encF (accG (pre.map GX.grp))))∧Boxed W n0 42 (.slice none 0 0)∧Boxed W (n0+1) 43 (.int .i64 0)∧okG (pre.map GX.grp)∧hi≤W.heap.size
theorem ofI_own (n0 hi:Nat):Own (OfI n0 hi):=by
 rintro s X Y row ⟨⟨v,hv,hr⟩,h1,h2,h3,h4⟩ hg hrow
 have hb:∀ {B:Nat} {t:TypeId} {u:Value},Boxed X B t u→some B≠row:=fun {B t u} hu e'=>by
  obtain ⟨o,ho,hc⟩:=hrow _ e'.symm
  rw [show X.heap[B]?=_ from hu] at ho;cases ho;cases hc
 exact ⟨⟨v,hv.kept hg (hb hv),row_uncells hr hg hrow⟩,h1.kept hg (hb h1),h2.kept hg (hb h2),h3,Nat.le_trans h4 hg.size⟩
def OfX (n0:Nat) (e:Int) (c:Code) (_:List GX) (W:World):Prop:=c=.ret∧Boxed W n0 42 (.slice none 0 0)∧Boxed W (n0+1) 43 (.int .i64 e)
theorem ofX_own (n0:Nat) (e:Int) (c:Code):Own (OfX n0 e c):=by
 rintro s X Y row ⟨h0,h1,h2⟩ hg hrow
 have hb:∀ {B:Nat} {t:TypeId} {u:Value},Boxed X B t u→some B≠row:=fun {B t u} hu e'=>by
  obtain ⟨o,ho,hc⟩:=hrow _ e'.symm
  rw [show X.heap[B]?=_ from hu] at ho;cases ho;cases hc
 exact ⟨h0,h1.kept hg (hb h1),h2.kept hg (hb h2)⟩
theorem cell_putObj {W:World} {l:Nat} {o o':Obj} (hl:W.heap[l]?=some o) (ho:o.isCells=false) {b i:Nat} {v:Value} (h:W.cell? ⟨b,i,none⟩=some v):(W.putObj l o').cell? ⟨b,i,none⟩=some v:=by
 refine (grownBy_putObj' W l o').cell h (fun e=>?_)
 cases e
 unfold World.cell? at h
 rw [hl] at h
 cases o <;> first | (simp at h;done) | (cases ho;done)
theorem boxed_putObj {W:World} {l:Nat} {o o':Obj} (hl:W.heap[l]?=some o) (ho:o.isCells=false) {B:Nat} {t:TypeId} {u:Value} (h:Boxed W B t u):Boxed (W.putObj l o') B t u:=by
 refine h.kept (grownBy_putObj' W l o') fun e=>?_
 cases e
 rw [show W.heap[l]?=_ from h] at hl
 cases hl
 simp [Obj.isCells] at ho
theorem row_putObj {W:World} {l:Nat} {o o':Obj} (hl:W.heap[l]?=some o) (ho:o.isCells=false) {p:Option Addr} {n:Nat} {ns:List Int} (h:RowIs .i64 W p n ns):RowIs .i64 (W.putObj l o') p n ns :=
 ⟨h.len,h.max,fun i hi=>by
  obtain ⟨b,o1,e,hc⟩:=h.cell i hi
  exact ⟨b,o1,e,cell_putObj hl ho hc⟩⟩
theorem wpListIn_append_el {F:Fence} {n:Nat} {α:Type} {E:Enc α} {P:Program} {ops:Array Oper} {rest:List Oper} {o:Oper} {a:Act} {w:World} {Q:Exit→Act→World→Prop} (hgd:o.guard=none) (s x:Operand) (t e:TypeId) (ho:o.op=.call { callee:=.builtin .append,args:=#[s,x],argTypes:=#[t,t] }) (HI:InfoE P t e E)
 (B:Nat) (L:List α) (y:α) (g:Nat) (hrow:w.ownsRow B e E.k (a.eval s) L.length (flat E L)) (hx:a.eval x=.slice (some ⟨g,0,none⟩) 1 1) (hc:ElAt E w g 0 y) (hB:B≤w.heap.size) (hL:L.length≤1000000)
 (h:∀ v' w',w'.ownsRow B e E.k v' (L++[y]).length (flat E (L++[y]))→w.grownBy w' (a.eval s).ownBlock→wpListIn F n P ops Q rest (a.put o.dst v') w'):wpListIn F n P ops Q (o::rest) a w:=by
 obtain ⟨i,z,m,hi,hz,hs,hn,hzs,hb⟩:=HI.info
 refine wpListIn_append_own w hgd s x t ho B e i z E.k m HI.under hi hz hs hn hzs E.pos _ _ _ rfl hrow ⟨g,0,none⟩ 1 1 (E.cs y) hx (by rw [E.len,Nat.one_mul]) (fun j u hj=>by rw [add_off];exact hc j u hj) (E.one y) (by unfold maxLen;omega) ?_ hB ?_
 ·exact Nat.le_trans (Nat.mul_le_mul (Nat.add_le_add_right hL 1) hb) (by decide)
 ·intro v' w' h1 h2 _
  exact h v' w' (by rw [flat_append,flat_one,List.length_append];exact h1) h2
theorem infoF:InfoE Tryz.prog 42 62 encF:=.of (z:=.agg #[.string ⟨#[]⟩,.string ⟨#[]⟩,.string ⟨#[]⟩,.string ⟨#[]⟩,.int .i64 0,.int .i64 0]) (n:=80) Tryz.underlying42 (by kernel_rfl) rfl (by decide)
set_option maxRecDepth 100000 in
set_option maxHeartbeats 4000000 in
theorem of_new (v:Value) (L:List Fact) (w:World) (h:FactsV w v L) (hz:∀ f∈L,In64 f.amt) (hL:L.length≤1000) :
 Calls Tryz.prog 40 #[v] w (CubeNew w (ofL L)):=by
 obtain ⟨W1,hW1⟩:∃ W1,((w.alloc (.cells #[.slice none 0 0] 42)).alloc (.cells #[.int .i64 0] 43)).alloc (.cells #[.slice none 0 0] 42)=W1:=⟨_,rfl⟩
 have HB1:Hid (Below w.heap.size w W1):=Lib.hid (by rw [←hW1];exact (((Below.refl _ w).alloc (Nat.le_refl _) _).alloc (by simp) _).alloc (by simp;omega) _)
 have HN1:Hid (W1.heap.size=w.heap.size+3):=Lib.hid (by rw [←hW1];simp)
 have HR1:Hid (Boxed W1 w.heap.size 42 (.slice none 0 0)):=Lib.hid (by rw [←hW1];exact ((Boxed.new w _ _).alloc _).alloc _)
 have HR2:Hid (Boxed W1 (w.heap.size+1) 43 (.int .i64 0)):=Lib.hid (by
  rw [←hW1]
  have:=Boxed.new (w.alloc (.cells #[.slice none 0 0] 42)) 43 (.int .i64 0)
  rw [World.size_alloc] at this
  exact this.alloc _)
 have HRC:Hid (Boxed W1 (w.heap.size+1+1) 42 (.slice none 0 0)):=Lib.hid (by
  rw [←hW1]
  have:=Boxed.new ((w.alloc (.cells #[.slice none 0 0] 42)).alloc (.cells #[.int .i64 0] 43)) 42 (.slice none 0 0)
  rw [World.size_alloc,World.size_alloc] at this
  exact this)
 have HK:=Lib.hid (byKey_any v L W1 (h.keep HB1.out) hL)
 have HZ:=Lib.hid (grps_in64 hz)
 have hlen:=flat_grps_length L
 rw [←hlen] at hL
 have HGL:Hid ((grps L).length≤1000):=Lib.hid (Nat.le_trans (grps_length L) (by omega))
 have HL:=Lib.hid hL
 obtain ⟨R,hR⟩:∃ R,ofL L=R:=⟨_,rfl⟩
 have HR:=Lib.hid (show runG (grps L)=R from hR)
 rw [hR]
 clear h hz hL hlen hR
 refine (callsIn_wide (n:=3)).1 ?_
 refine callsIn_of_wp_marks Tryz.func40 rfl trivial ?_ rfl
 simp only [Tryz.ntmps40,List.size_toArray,List.length_cons,List.length_nil,Nat.reduceAdd,Nat.reduceSub,Array.replicate_succ,Array.replicate_zero,List.push_toArray,List.append_toArray,List.nil_append,List.cons_append]
 gi_wp2_with (refine ⟨trivial,?_⟩;gi_at_call 65;refine (callsIn_wide.2 HK.out).mono ?_;rintro e w2 ⟨B,rfl,hS,hb2⟩)
 have hS':HasSI W1.heap.size w2.heap.size w2 B (flatG (grps L)):=by rw [←sorted_flat];exact hS
 have HB2:Hid (Below w.heap.size w w2):=Lib.hid (HB1.out.trans (hb2.mono HB1.out.size))
 have HC2:Hid (Boxed w2 (w.heap.size+1+1) 42 (.slice none 0 0)):=Lib.hid (boxed_below HRC.out hb2)
 have H12:Hid (Boxed w2 w.heap.size 42 (.slice none 0 0)):=Lib.hid (boxed_below HR1.out hb2)
 have H22:Hid (Boxed w2 (w.heap.size+1) 43 (.int .i64 0)):=Lib.hid (boxed_below HR2.out hb2)
 have HSZ:Hid (W1.heap.size≤w2.heap.size):=Lib.hid hb2.size
 clear hS hb2
 refine wpIn_rangeFunc_told rfl (by decide) (gf:=105) (lb:=#[.pointer (some ⟨B,0,none⟩)]) rfl trivial (enters_of Tryz.func105 (by kernel_rfl) rfl)
  (iter_told 2 (by decide) W1.heap.size w2.heap.size B (grps L) (grps_ok L) HL.out w2 hS' (Nat.le_refl _)) kpB_trans
  (fun W l o o' hl _ _ _=>⟨by simp,fun k _ hk=>World.putObj_heap_other (by omega)⟩) (fun _=>rfl)
  (fun pre W=>OfI w.heap.size w2.heap.size pre W∧Below w.heap.size w W)
  (fun c pre W=>(OfX w.heap.size R.2 c pre W∧R.1=[])∧Below w.heap.size w W)
  (OwnFrom.and (Own.from (ofI_own _ _) _) (ownFrom_below (Nat.le_refl _) HB2.out.size))
  (fun c=>OwnFrom.and (OwnFrom.and (Own.from (ofX_own _ _ _) _) (ownFrom_pure _ _)) (ownFrom_below (Nat.le_refl _) HB2.out.size))
  ⟨⟨⟨_,HC2.out,World.ownsRow_nil _ _ _ _⟩,H12.out,H22.out,fun g hg=>by simp at hg,Nat.le_refl _⟩,HB2.out⟩ ?_ ?_ ?_
 ·rintro l pre x W hl ⟨⟨⟨v',hv,hr⟩,h1,h2,h3,hhi⟩,hB⟩ ⟨⟨G',hG'⟩,hrow⟩
  have HI:Hid (∀ y∈x.ns,In64 y):=Lib.hid (fun y hy=>HZ.out x.grp (by rw [hG'];simp) y hy)
  have hbA:Below W.heap.size W (W.alloc (.cells #[.string x.k.e,.string x.k.a,.string x.k.f,.string x.k.p,.int .i64 x.k.m] 60)):=(Below.refl W.heap.size W).alloc (Nat.le_refl _) _
  have HBA:=Lib.hid hbA
  have HRA:=Lib.hid (row_below hr hbA)
  have HVA:=Lib.hid (boxed_below hv hbA)
  have H1A:=Lib.hid (boxed_below h1 hbA)
  have H2A:=Lib.hid (boxed_below h2 hbA)
  have HRO:=Lib.hid (hrow.keep hbA (Nat.le_refl _))
  have HXA:=Lib.hid (BoxE.new encK W x.k 60)
  have HG':=Lib.hid hG'
  have HOK:=Lib.hid h3
  have HBW:=Lib.hid hB
  have HLC:Hid ((accG (pre.map GX.grp)).length≤1000):=Lib.hid (by
   have e1:=acc_length (pre.map GX.grp)
   have e2:=HGL.out
   rw [hG'] at e2
   simp at e1 e2 ⊢
   omega)
  clear hv hr h1 h2 h3 hB hG' hrow hbA
  unfold encG
  gi_wp2_with fail
  refine ⟨keepsFrom_below _ HBA.out,kpB_below HBA.out hhi,?_⟩
  intro o o' hlo hoc
  obtain ⟨WA,hWA⟩:∃ WA,W.alloc (.cells #[.string x.k.e,.string x.k.a,.string x.k.f,.string x.k.p,.int .i64 x.k.m] 60)=WA:=⟨_,rfl⟩
  rw [hWA] at HRA HVA H1A H2A HRO HBA hlo
  have HSA:Hid (WA.heap.size=W.heap.size+1):=Lib.hid (by rw [←hWA,World.size_alloc])
  have HXB:Hid (BoxE encK WA W.heap.size 60 x.k):=Lib.hid (by rw [←hWA];exact HXA.out)
  rw [hWA]
  obtain ⟨W4,hW4⟩:∃ W4,WA.putObj l o'=W4:=⟨_,rfl⟩
  have hg4:WA.grownBy W4 (some l):=by rw [←hW4];exact grownBy_putObj' WA l o'
  have hv4:Boxed W4 (w.heap.size+1+1) 42 v':=by rw [←hW4];exact boxed_putObj hlo hoc HVA.out
  have h14:Boxed W4 w.heap.size 42 (.slice none 0 0):=by rw [←hW4];exact boxed_putObj hlo hoc H1A.out
  have h24:Boxed W4 (w.heap.size+1) 43 (.int .i64 0):=by rw [←hW4];exact boxed_putObj hlo hoc H2A.out
  have HR4:Hid (W4.ownsRow w2.heap.size 62 6 v' (accG (pre.map GX.grp)).length (flat encF (accG (pre.map GX.grp)))):=Lib.hid (by rw [←hW4];exact row_uncells HRA.out (grownBy_putObj' WA l o') (fun r e=>by cases e;exact ⟨o,hlo,hoc⟩))
  have HRO4:Hid (RowIs .i64 W4 x.a x.ns.length x.ns):=Lib.hid (by rw [←hW4];exact row_putObj hlo hoc HRO.out)
  have HB4:Hid (Below w.heap.size w W4):=Lib.hid (by
   rw [←hW4]
   exact (HBW.out.trans (HBA.out.mono HBW.out.size)).grown (grownBy_putObj' WA l o') (by have:=HBW.out.size;have:=HBA.out.size;omega) (fun k e=>by cases e;have:=HB2.out.size;omega))
  have HS4:Hid (W4.heap.size=W.heap.size+1):=Lib.hid (by rw [←hW4,←HSA.out];simp)
  obtain ⟨k0,k1,k2,k3,k4⟩:=key5 HXB.out.at0
  simp only [Nat.zero_add] at k0 k1 k2 k3 k4
  replace k0:=hW4 ▸ cell_putObj (o':=o') hlo hoc k0
  replace k1:=hW4 ▸ cell_putObj (o':=o') hlo hoc k1
  replace k2:=hW4 ▸ cell_putObj (o':=o') hlo hoc k2
  replace k3:=hW4 ▸ cell_putObj (o':=o') hlo hoc k3
  replace k4:=hW4 ▸ cell_putObj (o':=o') hlo hoc k4
  rw [hW4]
  have HHI:=Lib.hid hhi
  clear HXB HXA HRA HVA H1A H2A HRO hlo hoc hg4 hW4 hWA HBA HSA hhi
  have hsum:=sum_any x.a x.ns.length x.c x.ns W4 HRO4.out HI.out
  obtain ⟨sm,hsm⟩:∃ sm,(sumFrom 0 x.ns).1=sm:=⟨_,rfl⟩
  obtain ⟨er,her⟩:∃ er,(sumFrom 0 x.ns).2=er:=⟨_,rfl⟩
  rw [hsm,her] at hsum
  have HSM:=Lib.hid hsm
  have HER:=Lib.hid her
  have HSUM:=Lib.hid hsum
  clear hsum hsm her
  by_cases he0:er=0
  ·subst he0
   have HOK2:Hid (okG ((pre++[x]).map GX.grp)):=Lib.hid (by rw [List.map_append];exact ok_snoc HOK.out HER.out)
   have HAC:Hid (accG ((pre++[x]).map GX.grp)=accG (pre.map GX.grp)++putF x.k sm):=Lib.hid (by rw [List.map_append,List.map_cons,List.map_nil,acc_snoc];show _++putF x.k (sumFrom 0 x.ns).1=_;rw [HSM.out])
   by_cases hs0:sm=0
   ·subst hs0
    gi_wp2_with (refine ⟨trivial,?_⟩;gi_at_call 66;refine (CallsIn.inRound l (callsIn_wide.2 HSUM.out)).mono ?_;rintro e W5 ⟨rfl,rfl⟩)
    refine ⟨KeepsFrom.refl _ _,⟨Nat.le_refl _,fun _ _ _=>rfl⟩,⟨⟨v',hv4,?_⟩,h14,h24,HOK2.out,by have:=HHI.out;have:=HS4.out;omega⟩,HB4.out⟩
    rw [HAC.out];simp only [putF,if_true,List.append_nil];exact HR4.out
   ·have hne:(sm != 0)=true:=by simpa using hs0
    have HPF:Hid (putF x.k sm=[⟨x.k,sm⟩]):=Lib.hid (by simp [putF,hs0])
    have hcv:=hv4.cell
    obtain ⟨n0,hn0⟩:∃ n0,(accG (pre.map GX.grp)).length=n0:=⟨_,rfl⟩
    have HLN:Hid ((accG (pre.map GX.grp)++[(⟨x.k,sm⟩:Fact)]).length=n0+1):=Lib.hid (by simp [hn0])
    have HN0:=Lib.hid hn0
    clear hn0
    gi_wp2_with (first
     | (refine ⟨trivial,?_⟩;gi_at_call 66;refine (CallsIn.inRound l (callsIn_wide.2 HSUM.out)).mono ?_;rintro e W5 ⟨rfl,rfl⟩)
     | (gi_at_builtin;refine wpListIn_append_el (E:=encF) rfl _ _ 42 62 rfl infoF w2.heap.size (accG (pre.map GX.grp)) ⟨x.k,sm⟩ W4.heap.size (HR4.out.alloc _) rfl (el_new encF W4 ⟨x.k,sm⟩ _) (by have:=HHI.out;have:=HS4.out;simp;omega) (by have:=HLC.out;omega) ?_;intro v9 w9 hr9 hg9;rw [HLN.out] at hr9;obtain ⟨g9,c9,rfl⟩:=ownsRow_succ hr9;obtain ⟨hv5,hv6,hr6,hk6,hb6⟩:=hv4.appended (n₀:=w.heap.size) (by decide) (row_base HR4.out HB2.out.size) (by have:=HB4.out.size;omega) (by omega) (row_base hr9 HB2.out.size) hg9;have hc5:=hv5.cell;have hf5:=hv5.frozen)
     | fail)
    have HR9:=Lib.hid hr9
    have HG9:=Lib.hid hg9
    have HV5:=Lib.hid hv5
    have HV6:=Lib.hid hv6
    have HK6:=Lib.hid hk6
    have HB6:=Lib.hid hb6
    clear hr9 hg9 hv5 hv6 hr6 hk6 hb6 hc5 hf5 hcv
    refine ⟨HK6.out.from _,⟨HB6.out.size,fun k hk1 hk2=>?_⟩,⟨⟨_,HV6.out,?_⟩,kept3 h14 HG9.out (h14.not_row (by decide) HR4.out) (by omega),kept3 h24 HG9.out (h24.not_row (by decide) HR4.out) (by omega),HOK2.out,by have:=HHI.out;have:=HS4.out;have:=HB6.out.size;omega⟩,HB4.out.trans HB6.out⟩
    ·have hn:=HN1.out
     have hs:=HSZ.out
     have hh:=HHI.out
     have h4:=HS4.out
     have e1:=(World.grownBy_alloc W4 (.cells (encF.cs ⟨x.k,sm⟩).toArray 62) none).block k (by omega) (by simp)
     have e2:=HG9.out.block k (by simp;omega) (row_ge HR4.out hk2)
     have e3:=(grownBy_setCell' w9 (w.heap.size+1+1) (.slice (some ⟨g9,0,none⟩) (n0+1) c9)).block k (by have:=HG9.out.size;simp at this;omega) (by simp;omega)
     exact e3.trans (e2.trans e1)
    ·rw [HAC.out,HPF.out,HLN.out]
     exact HR9.out.kept (grownBy_setCell' w9 _ _) (.inr (HV5.out.not_row (by decide) HR9.out).symm)
  ·have hne:(er != 0)=true:=by simpa using he0
   have c1:=h14.cell
   have f1:=h14.frozen
   have h25:=h24.other (B':=w.heap.size) (by omega) (.slice none 0 0)
   have c2:=h25.cell
   have f2:=h25.frozen
   have H16:Hid (Boxed ((W4.setCell ⟨w.heap.size,0,none⟩ (.slice none 0 0)).setCell ⟨w.heap.size+1,0,none⟩ (.int .i64 er)) w.heap.size 42 (.slice none 0 0)):=Lib.hid ((h14.set _).other (by omega) _)
   have H26:Hid (Boxed ((W4.setCell ⟨w.heap.size,0,none⟩ (.slice none 0 0)).setCell ⟨w.heap.size+1,0,none⟩ (.int .i64 er)) (w.heap.size+1) 43 (.int .i64 er)):=Lib.hid (h25.set _)
   have HK6:Hid (KeepsFrom w2.heap.size W4 ((W4.setCell ⟨w.heap.size,0,none⟩ (.slice none 0 0)).setCell ⟨w.heap.size+1,0,none⟩ (.int .i64 er))):=Lib.hid ((KeepsFrom.of_grownBy (grownBy_setCell' W4 w.heap.size (.slice none 0 0)) (fun k e=>by cases e;have:=HN1.out;have:=HSZ.out;omega)).trans (KeepsFrom.of_grownBy (grownBy_setCell' _ (w.heap.size+1) (.int .i64 er)) (fun k e=>by cases e;have:=HN1.out;have:=HSZ.out;omega)))
   have HB6:Hid (Below w.heap.size w ((W4.setCell ⟨w.heap.size,0,none⟩ (.slice none 0 0)).setCell ⟨w.heap.size+1,0,none⟩ (.int .i64 er))):=Lib.hid ((HB4.out.grown (grownBy_setCell' W4 w.heap.size (.slice none 0 0)) HB4.out.size (fun k e=>by cases e;exact Nat.le_refl _)).grown (grownBy_setCell' _ (w.heap.size+1) (.int .i64 er)) (by simpa using HB4.out.size) (fun k e=>by cases e;omega))
   have HRR:Hid (R.1=[]∧R.2=er):=Lib.hid (by
    have e1:=HR.out
    rw [HG'.out,run_err _ _ x.grp HOK.out (by show (sumFrom 0 x.ns).2≠0;rw [HER.out];exact he0)] at e1
    rw [←e1]
    exact ⟨rfl,HER.out⟩)
   gi_wp2_with (refine ⟨trivial,?_⟩;gi_at_call 66;refine (CallsIn.inRound l (callsIn_wide.2 HSUM.out)).mono ?_;rintro e W5 ⟨rfl,rfl⟩)
   exact ⟨HK6.out,⟨⟨rfl,H16.out,by rw [HRR.out.2];exact H26.out⟩,HRR.out.1⟩,HB6.out⟩
 ·rintro D xs W hD hxs ⟨⟨⟨v',hv,hr⟩,h1,h2,h3,hhi⟩,hB⟩ hK
  have HRR:Hid (R=(accG (grps L),0)):=Lib.hid (by rw [←HR.out,run_end _ (by rw [←hxs];exact h3)])
  rw [hxs] at hr
  have hF:=els_of_own hr
  have HNW:=Lib.hid (NewV.own hr (w:=w) (by have:=HB2.out.size;omega))
  obtain ⟨p,c,rfl,hnc,hcm,_⟩:=id hF
  obtain ⟨n0,hn0⟩:∃ n0,(accG (grps L)).length=n0:=⟨_,rfl⟩
  have hn1:n0≤1000:=by rw [←hn0];exact Nat.le_trans (acc_length _) HGL.out
  have hF0:=hF
  rw [hn0] at hv hF0 HNW
  have HF:=Lib.hid hF0
  have hcv:=hv.cell
  have c1:=h1.cell
  have f1:=h1.frozen
  have h25:=h2.other (B':=w.heap.size) (by omega) (.slice p n0 c)
  have c2:=h25.cell
  have f2:=h25.frozen
  have hlt:¬ (2000:Int) < (n0:Int):=by omega
  obtain ⟨W5,hW5⟩:∃ W5,W.setCell ⟨w.heap.size,0,none⟩ (.slice p n0 c)=W5:=⟨_,rfl⟩
  obtain ⟨W6,hW6⟩:∃ W6,W5.setCell ⟨w.heap.size+1,0,none⟩ (.int .i64 0)=W6:=⟨_,rfl⟩
  have b15:Boxed W5 w.heap.size 42 (.slice p n0 c):=by rw [←hW5];exact h1.set _
  rw [hW5] at h25
  have b16:Boxed W6 w.heap.size 42 (.slice p n0 c):=by rw [←hW6];exact b15.other (by omega) _
  have b26:Boxed W6 (w.heap.size+1) 43 (.int .i64 0):=by rw [←hW6];exact h25.set _
  have r5:=hr.kept (grownBy_setCell' W w.heap.size (.slice p n0 c)) (.inr (h1.not_row (by decide) hr).symm)
  rw [hW5] at r5
  have r6:=r5.kept (grownBy_setCell' W5 (w.heap.size+1) (.int .i64 0)) (.inr (h25.not_row (by decide) r5).symm)
  rw [hW6] at r6
  have hK5:W5.heap[D]?=some (.deferred (some [])):=by rw [←hW5];exact ((grownBy_setCell' W w.heap.size (.slice p n0 c)).block D (Array.getElem?_eq_some_iff.1 hK).1 (by have:=HB2.out.size;have:=HN1.out;have:=HSZ.out;simp;omega)).trans hK
  have hK6:W6.heap[D]?=some (.deferred (some [])):=by rw [←hW6];exact ((grownBy_setCell' W5 (w.heap.size+1) (.int .i64 0)).block D (Array.getElem?_eq_some_iff.1 hK5).1 (by have:=HB2.out.size;have:=HN1.out;have:=HSZ.out;simp;omega)).trans hK5
  have hB5:Below w.heap.size w W5:=by rw [←hW5];exact hB.grown (grownBy_setCell' W w.heap.size _) hB.size (fun k e=>by cases e;exact Nat.le_refl _)
  have hB6:Below w.heap.size w W6:=by rw [←hW6];exact hB5.grown (grownBy_setCell' W5 (w.heap.size+1) _) hB5.size (fun k e=>by cases e;omega)
  have b17:=(boxed_putObj (o':=.deferred none) hK6 rfl b16).cell
  have b27:=(boxed_putObj (o':=.deferred none) hK6 rfl b26).cell
  have r7:=els_of_own (E:=encF) (row_uncells r6 (grownBy_putObj' W6 D (.deferred none)) (fun r e=>by cases e;exact ⟨_,hK6,rfl⟩))
  have hB7:=hB6.grown (grownBy_putObj' W6 D (.deferred none)) hB6.size (fun k e=>by cases e;have:=HB2.out.size;omega)
  rw [hn0] at r7
  have HK6:=Lib.hid hK6
  have HR7:=Lib.hid r7
  have HB7:=Lib.hid hB7
  have H17:=Lib.hid b17
  have H27:=Lib.hid b27
  clear hF hF0 hr b15 b16 b26 r5 r6 hK5 hK6 hB5 hB6 b17 b27 r7 hB7 h25 hK hB h1 h2 hv HF
  rw [hW5] at c2 f2
  gi_wp2
  refine ⟨by simp,.inl ⟨_,_,rfl,run_takeDeferred HK6.out,?_⟩⟩
  have c17:=H17.out
  have c27:=H27.out
  refine ⟨.tuple #[.slice p n0 c,.int .i64 0],by simp [results,Tryz.results40,go_sem,c17,c27],.slice p n0 c,by rw [HRR.out],?_,HB7.out,HNW.out⟩
  rw [HRR.out]
  exact HR7.out
 ·rintro D c pre W hD _ ⟨⟨⟨rfl,h1,h2⟩,h3⟩,hB⟩ hK
  have b17:=(boxed_putObj (o':=.deferred none) hK rfl h1).cell
  have b27:=(boxed_putObj (o':=.deferred none) hK rfl h2).cell
  have hB7:=hB.grown (grownBy_putObj' W D (.deferred none)) hB.size (fun k e=>by cases e;have:=HB2.out.size;omega)
  have HK6:=Lib.hid hK
  have HB7:=Lib.hid hB7
  have H17:=Lib.hid b17
  have H27:=Lib.hid b27
  clear b17 b27 hB7 hK h1 h2 hB
  gi_wp2
  refine ⟨by simp,.inl ⟨_,_,rfl,run_takeDeferred HK6.out,?_⟩⟩
  have c17:=H17.out
  have c27:=H27.out
  refine ⟨.tuple #[.slice none 0 0,.int .i64 R.2],by simp [results,Tryz.results40,go_sem,c17,c27],.slice none 0 0,rfl,?_,HB7.out,NewV.none _ _ _⟩
  rw [h3]
  exact ElsV.nil _
theorem of_any (v:Value) (L:List Fact) (w:World) (h:FactsV w v L) (hz:∀ f∈L,In64 f.amt) (hL:L.length≤1000) :
 Calls Tryz.prog 40 #[v] w (CubeTold w (ofL L)):=(of_new v L w h hz hL).mono fun _ _ h=>h.told
end Go.Proofs.YtfhhihamndbcnaaGreatDoor.Fa
end
section
namespace Go.Proofs.YtfhhihamndbcnaaGreatDoor.Fa
open Go.RowKit
def getL (c:List Fact) (k:Key):Int:=match c.find? fun f=>decide (f.key=k) with
 | some f=>f.amt
 | none=>0
def RiseF (c:List Fact):Prop:=c.Pairwise fun x y=>ltK x.key y.key
theorem riseF_at {c:List Fact} (h:RiseF c) {i j:Nat} {x y:Fact} (hij:i < j) (hx:c[i]?=some x) (hy:c[j]?=some y):ltK x.key y.key:=by
 have h1:=(List.getElem?_eq_some_iff.1 hx)
 have h2:=(List.getElem?_eq_some_iff.1 hy)
 have:=(List.pairwise_iff_getElem.1 h) i j h1.1 h2.1 hij
 rwa [h1.2,h2.2] at this
theorem riseF_uniq {c:List Fact} (h:RiseF c) {x y:Fact} (hx:x∈c) (hy:y∈c) (e:x.key=y.key):x=y:=by
 obtain ⟨i,hi,rfl⟩:=List.getElem_of_mem hx
 obtain ⟨j,hj,rfl⟩:=List.getElem_of_mem hy
 rcases Nat.lt_trichotomy i j with h1 | h1 | h1
 ·exact absurd e (ltK_ne (List.pairwise_iff_getElem.1 h i j hi hj h1))
 ·subst h1;rfl
 ·exact absurd e.symm (ltK_ne (List.pairwise_iff_getElem.1 h j i hj hi h1))
theorem getL_mem {c:List Fact} (h:RiseF c) {x:Fact} (hx:x∈c):getL c x.key=x.amt:=by
 unfold getL
 cases hf:c.find? fun f=>decide (f.key=x.key) with
 | none=>exact absurd (List.find?_eq_none.1 hf x hx) (by simp)
 | some y =>
   have h1:=List.mem_of_find?_eq_some hf
   have h2:y.key=x.key:=by have:=List.find?_some hf;simpa using this
   rw [riseF_uniq h h1 hx h2]
theorem getL_no {c:List Fact} {k:Key} (h:∀ x∈c,x.key≠k):getL c k=0:=by
 unfold getL
 rw [List.find?_eq_none.2 fun x hx=>by simpa using h x hx]
structure SearchAt (w wr:World) (L:List Fact) (c:Key) (lo hi:Nat):Prop where
 le:lo≤hi
 top:hi≤L.length
 bel:Below (w.heap.size+1) (w.alloc (.cells (encK.cs c).toArray 60)) wr
 low:∀ (t:Nat) (x:Fact),t < lo→L[t]?=some x→ltK x.key c
 high:∀ (t:Nat) (x:Fact),hi≤t→L[t]?=some x→¬ ltK x.key c
def FoundAt (L:List Fact) (c:Key) (at_:Nat) (is:Bool):Prop:=(is=true→∃ x,L[at_]?=some x∧x.key=c)∧(is=false→∀ x∈L,x.key≠c)
theorem found_end {L:List Fact} {c:Key} {hi:Nat} (low:∀ (t:Nat) (x:Fact),t < hi→L[t]?=some x→ltK x.key c) (h:hi=L.length):FoundAt L c hi false:=by
 unfold FoundAt
 refine ⟨(fun e=>by cases e),fun _ x hx e=>?_⟩
 obtain ⟨i,hi',rfl⟩:=List.getElem_of_mem hx
 exact ltK_ne (low i _ (by omega) (List.getElem?_eq_getElem hi')) e
theorem found_mid {L:List Fact} {c:Key} {hi:Nat} {x:Fact} (hr:RiseF L) (low:∀ (t:Nat) (x:Fact),t < hi→L[t]?=some x→ltK x.key c) (high:∀ (t:Nat) (x:Fact),hi≤t→L[t]?=some x→¬ ltK x.key c) (hx:L[hi]?=some x):FoundAt L c hi (cmpK x.key c==0):=by
 unfold FoundAt
 refine ⟨fun e=>⟨x,hx,(isCmp_key.eq0 _ _).1 (by simpa using e)⟩,fun e y hy he=>?_⟩
 have hne:x.key≠c:=fun h=>by rw [(isCmp_key.eq0 _ _).2 h] at e;simp at e
 obtain ⟨j,hj,rfl⟩:=List.getElem_of_mem hy
 have hj':=List.getElem?_eq_getElem hj
 rcases Nat.lt_trichotomy j hi with h1 | h1 | h1
 ·exact ltK_ne (low j _ h1 hj') he
 ·subst h1
  rw [hj'] at hx
  cases hx
  exact hne he
 ·have h2:=riseF_at hr h1 hx hj'
  rw [he] at h2
  exact high hi x (Nat.le_refl _) hx h2
set_option maxRecDepth 100000 in
set_option maxHeartbeats 8000000 in
theorem search_any (v:Value) (L:List Fact) (c:Key) (w:World) (h:FactsV w v L) (hr:RiseF L) (hL:L.length≤1000) :
 Calls Tryz.prog 42 #[v,aggK c,.func (.func 43) #[] #[]] w fun e w'=>∃ (at_:Nat) (is:Bool),e=.returned (.tuple #[.int .i64 (at_:Int),.bool is])∧FoundAt L c at_ is∧Below w.heap.size w w':=by
 have HB0:=Lib.hid ((Below.refl w.heap.size w).alloc (Nat.le_refl _) (.cells (encK.cs c).toArray 60))
 have HX0:=Lib.hid (BoxE.new encK w c 60)
 have hV:=h.keep HB0.out
 obtain ⟨p,cap,rfl,hcap,hm,_,hc⟩:=hV
 obtain ⟨n,hn⟩:∃ n,L.length=n:=⟨_,rfl⟩
 rw [hn] at hcap hL ⊢
 have HC:=Lib.hid hc
 have HN:=Lib.hid hn
 have HRI:=Lib.hid hr
 unfold maxLen at hm
 have HAT:Hid (∀ (wr:World),Below (w.heap.size+1) (w.alloc (.cells (encK.cs c).toArray 60)) wr→∀ (i:Nat) (x:Fact),L[i]?=some x→∃ b o,p=some ⟨b,o,none⟩∧ElAt encF wr b (o+i * 6) x∧ElAt encK wr w.heap.size 0 c):=Lib.hid (fun wr hb i x hx=>by
  obtain ⟨b,o,e,hat⟩:=HC.out i x hx
  have hlt:=hat.lt
  rw [World.size_alloc] at hlt
  exact ⟨b,o,e,hat.keep hb hlt,HX0.out.at0.keep hb (Nat.lt_succ_self _)⟩)
 have HBE:Hid (∀ (wr:World),Below (w.heap.size+1) (w.alloc (.cells (encK.cs c).toArray 60)) wr→Below w.heap.size w wr):=Lib.hid (fun wr hb=>HB0.out.trans (hb.mono (Nat.le_succ _)))
 clear hc hn hr h
 go_enter Tryz.func42,Tryz.ntmps42
 go_wp2
 go_loopg [9,10] n (fun kx s9 s10 wr=>∃ lo hi:Nat,s9=.int .i64 (lo:Int)∧s10=.int .i64 (hi:Int)∧hi - lo≤kx∧lo≤hi∧hi≤n∧Hid (SearchAt w wr L c lo hi))
 case atStart=>exact ⟨0,n,rfl,rfl,by omega,Nat.zero_le _,Nat.le_refl _,Lib.hid ⟨Nat.zero_le _,by rw [HN.out];exact Nat.le_refl _,Below.refl _ _,fun t x ht=>absurd ht (Nat.not_lt_zero _),fun t x ht hx=>by
  have:=(List.getElem?_eq_some_iff.1 hx).1
  rw [HN.out] at this;omega⟩⟩
 case round =>
  obtain ⟨lo,hi,rfl,rfl,hkx,hlh,hin,HA⟩:=hrel
  have HSZ:Hid (w.heap.size+1≤wr.heap.size):=Lib.hid (by have:=HA.out.bel.size;rwa [World.size_alloc] at this)
  by_cases hlt:lo < hi
  ·have hmid:(lo+hi) / 2 < n:=by omega
   obtain ⟨x,hx⟩:∃ x,L[(lo+hi) / 2]?=some x:=⟨_,List.getElem?_eq_getElem (by rw [HN.out];exact hmid)⟩
   obtain ⟨b,o,rfl,hat,hct⟩:=HAT.out _ HA.out.bel _ x hx
   obtain ⟨r0,r1,r2,r3,r4,r5⟩:=fact6 hat
   obtain ⟨s0,s1,s2,s3,s4⟩:=key5 hct
   simp only [Nat.zero_add] at s0 s1 s2 s3 s4
   have q0:=fun p:Past wr=>cell_past r0 p
   have q1:=fun p:Past wr=>cell_past r1 p
   have q2:=fun p:Past wr=>cell_past r2 p
   have q3:=fun p:Past wr=>cell_past r3 p
   have q4:=fun p:Past wr=>cell_past r4 p
   have q5:=fun p:Past wr=>cell_past r5 p
   have u0:=fun p:Past wr=>cell_past s0 p
   have u1:=fun p:Past wr=>cell_past s1 p
   have u2:=fun p:Past wr=>cell_past s2 p
   have u3:=fun p:Past wr=>cell_past s3 p
   have u4:=fun p:Past wr=>cell_past s4 p
   clear r0 s0 r1 s1 r2 s2 r3 s3 r4 s4 r5
   have HX:=Lib.hid hx
   clear hx hat hct
   obtain ⟨m,hmm⟩:∃ m,cmpK x.key c=m:=⟨_,rfl⟩
   have HAG:=Lib.hid (fun W=>(against_any x c W).mono fun _ _ ⟨h1,h2⟩=>And.intro h1 h2.below)
   have HM:Hid (ltK x.key c ↔ m < 0):=Lib.hid (by unfold ltK;rw [hmm])
   simp only [hmm] at HAG
   clear hmm
   have hwm:IntKind.i64.wrap ((lo:Int)+(hi:Int))=(lo:Int)+(hi:Int):=by rw [IntKind.wrap_i64];omega
   by_cases hm0:m < 0
   ·have HLT:=Lib.hid (HM.out.2 hm0)
    go_wp2_with fail
    refine wp_region_past (by kernel_rfl) (by kernel_rfl) ?_
    repeat (go_big_quiet_step ((go_at_call 43;exact Calls.past_of (HAG.out _))))
    refine wpQuiet_nil ?_
    intro _ hw'
    obtain ⟨⟨w3,hb3⟩,rfl⟩:=hw'
    clear q0 u0 q1 u1 q2 u2 q3 u3 q4 u4 q5
    go_wp2
    go_roundg (hi - ((lo+hi) / 2+1))
    case measure=>omega
    case rel=>exact ⟨(lo+hi) / 2+1,hi,by rw [show ((lo:Int)+(hi:Int)) / 2+1=(((lo+hi) / 2+1:Nat):Int) by omega],rfl,Nat.le_refl _,by omega,hin,Lib.hid ⟨by omega,HA.out.top,HA.out.bel.trans (hb3.mono HSZ.out),fun t y ht hy=>by
     rcases Nat.lt_or_ge t ((lo+hi) / 2) with h | h
     ·exact ltK_trans (riseF_at HRI.out h hy HX.out) HLT.out
     ·obtain rfl:t=(lo+hi) / 2:=by omega
      rw [HX.out] at hy;cases hy;exact HLT.out,HA.out.high⟩⟩
   ·have HLT:Hid (¬ ltK x.key c):=Lib.hid (fun h=>hm0 (HM.out.1 h))
    go_wp2_with fail
    refine wp_region_past (by kernel_rfl) (by kernel_rfl) ?_
    repeat (go_big_quiet_step ((go_at_call 43;exact Calls.past_of (HAG.out _))))
    refine wpQuiet_nil ?_
    intro _ hw'
    obtain ⟨⟨w3,hb3⟩,rfl⟩:=hw'
    clear q0 u0 q1 u1 q2 u2 q3 u3 q4 u4 q5
    go_wp2
    go_roundg ((lo+hi) / 2 - lo)
    case measure=>omega
    case rel=>exact ⟨lo,(lo+hi) / 2,rfl,by rw [show ((lo:Int)+(hi:Int)) / 2=(((lo+hi) / 2:Nat):Int) by omega],Nat.le_refl _,by omega,by omega,Lib.hid ⟨by omega,by have:=HA.out.top;omega,HA.out.bel.trans (hb3.mono HSZ.out),HA.out.low,fun t y ht hy=>by
     rcases Nat.lt_or_ge ((lo+hi) / 2) t with h | h
     ·exact fun h'=>HLT.out (ltK_trans (riseF_at HRI.out h HX.out hy) h')
     ·obtain rfl:t=(lo+hi) / 2:=by omega
      rw [HX.out] at hy;cases hy;exact HLT.out⟩⟩
  ·obtain rfl:hi=lo:=by omega
   by_cases hn:hi < n
   ·obtain ⟨x,hx⟩:∃ x,L[hi]?=some x:=⟨_,List.getElem?_eq_getElem (by rw [HN.out];exact hn)⟩
    obtain ⟨b,o,rfl,hat,hct⟩:=HAT.out _ HA.out.bel _ x hx
    obtain ⟨r0,r1,r2,r3,r4,r5⟩:=fact6 hat
    obtain ⟨s0,s1,s2,s3,s4⟩:=key5 hct
    simp only [Nat.zero_add] at s0 s1 s2 s3 s4
    have q0:=fun p:Past wr=>cell_past r0 p
    have q1:=fun p:Past wr=>cell_past r1 p
    have q2:=fun p:Past wr=>cell_past r2 p
    have q3:=fun p:Past wr=>cell_past r3 p
    have q4:=fun p:Past wr=>cell_past r4 p
    have q5:=fun p:Past wr=>cell_past r5 p
    have u0:=fun p:Past wr=>cell_past s0 p
    have u1:=fun p:Past wr=>cell_past s1 p
    have u2:=fun p:Past wr=>cell_past s2 p
    have u3:=fun p:Past wr=>cell_past s3 p
    have u4:=fun p:Past wr=>cell_past s4 p
    clear r0 s0 r1 s1 r2 s2 r3 s3 r4 s4 r5
    have HFO:=Lib.hid (found_mid HRI.out HA.out.low HA.out.high hx)
    clear hx hat hct
    obtain ⟨m,hmm⟩:∃ m,cmpK x.key c=m:=⟨_,rfl⟩
    have HAG:=Lib.hid (fun W=>(against_any x c W).mono fun _ _ ⟨h1,h2⟩=>And.intro h1 h2.below)
    simp only [hmm] at HAG HFO
    clear hmm
    go_wp2_with fail
    refine wp_region_past (by kernel_rfl) (by kernel_rfl) ?_
    repeat (go_big_quiet_step ((go_at_call 43;exact Calls.past_of (HAG.out _))))
    refine wpQuiet_nil ?_
    intro _ hw'
    obtain ⟨⟨w3,hb3⟩,rfl⟩:=hw'
    clear q0 u0 q1 u1 q2 u2 q3 u3 q4 u4 q5
    go_wp2
    go_ret2
    exact ⟨hi,m==0,rfl,HFO.out,HBE.out _ (HA.out.bel.trans (hb3.mono HSZ.out))⟩
   ·have HFO:=Lib.hid (found_end HA.out.low (show hi=L.length by rw [HN.out];omega))
    have hd:decide ((hi:Int) < (n:Int))=false:=decide_eq_false (by omega)
    go_wp2_with fail
    refine wp_region_past (by kernel_rfl) (by kernel_rfl) ?_
    repeat (go_big_quiet_step (fail))
    refine wpQuiet_nil ?_
    intro _ hw'
    obtain ⟨⟨w3,hb3⟩,rfl⟩:=hw'
    go_wp2
    go_ret2
    exact ⟨hi,false,rfl,HFO.out,HBE.out _ (HA.out.bel.trans (hb3.mono HSZ.out))⟩
end Go.Proofs.YtfhhihamndbcnaaGreatDoor.Fa
end
section
namespace Go.Proofs.YtfhhihamndbcnaaGreatDoor.Fa
open Go.RowKit
def RightP (c:List Fact):Prop:=c.length≤2000∧(∀ f∈c,f.amt≠0)∧RiseF c
instance (c:List Fact):Decidable (RightP c):=by unfold RightP RiseF;infer_instance
def rightL (c:List Fact):Bool:=decide (RightP c)
def OkTo (c:List Fact) (i:Nat):Prop:=∀ (j:Nat) (x:Fact),j < i→c[j]?=some x→x.amt≠0∧∀ y,0 < j→c[j - 1]?=some y→ltK y.key x.key
theorem pairs_of_next {c:List Fact} (h:∀ (j:Nat) (x y:Fact),c[j]?=some x→c[j+1]?=some y→ltK x.key y.key):RiseF c:=by
 induction c with
 | nil=>exact List.Pairwise.nil
 | cons a c ih =>
   have ht:=ih fun j x y hx hy=>h (j+1) x y (by simpa using hx) (by simpa using hy)
   refine List.pairwise_cons.2 ⟨fun z hz=>?_,ht⟩
   cases c with
   | nil=>cases hz
   | cons b c =>
     have hab:=h 0 a b rfl rfl
     rcases List.mem_cons.1 hz with rfl | hz
     ·exact hab
     ·exact ltK_trans hab ((List.pairwise_cons.1 ht).1 z hz)
theorem right_yes {c:List Fact} {n:Nat} (hn:c.length=n) (h2:n≤2000) (h:OkTo c n):rightL c=true:=by
 refine decide_eq_true ⟨by omega,fun f hf=>?_,pairs_of_next fun j x y hx hy=>?_⟩
 ·obtain ⟨j,hj,rfl⟩:=List.getElem_of_mem hf
  exact (h j _ (by omega) (List.getElem?_eq_getElem hj)).1
 ·have hj:=(List.getElem?_eq_some_iff.1 hy).1
  exact (h (j+1) y (by omega) hy).2 x (Nat.succ_pos _) hx
theorem right_no0 {c:List Fact} {i:Nat} {x:Fact} (hx:c[i]?=some x) (h:x.amt=0):rightL c=false :=
 decide_eq_false fun hr=>hr.2.1 x (List.mem_of_getElem? hx) h
theorem right_no1 {c:List Fact} {i:Nat} {x y:Fact} (hi:0 < i) (hx:c[i]?=some x) (hy:c[i - 1]?=some y) (h:¬ ltK y.key x.key):rightL c=false :=
 decide_eq_false fun hr=>h (riseF_at hr.2.2 (by omega) hy hx)
theorem okTo_next {c:List Fact} {i:Nat} {x:Fact} (h:OkTo c i) (hx:c[i]?=some x) (h0:x.amt≠0) (h1:∀ y,0 < i→c[i - 1]?=some y→ltK y.key x.key):OkTo c (i+1):=by
 intro j z hj hz
 rcases Nat.lt_or_ge j i with hl | hl
 ·exact h j z hl hz
 ·obtain rfl:j=i:=by omega
  rw [hx] at hz;cases hz
  exact ⟨h0,h1⟩
set_option maxRecDepth 100000 in
set_option maxHeartbeats 8000000 in
theorem right_any (v:Value) (c:List Fact) (w:World) (h:FactsV w v c) (hL:c.length≤100000) :
 Calls Tryz.prog 25 #[v] w fun e w'=>e=.returned (.bool (rightL c))∧Below w.heap.size w w':=by
 have HV:=Lib.hid h
 obtain ⟨p,cp,rfl,hcap,hm,_,_⟩:=h
 obtain ⟨n,hn⟩:∃ n,c.length=n:=⟨_,rfl⟩
 rw [hn] at hcap hL HV ⊢
 have HN:=Lib.hid hn
 obtain ⟨S,hS⟩:∃ S,rightL c=S:=⟨_,rfl⟩
 rw [hS]
 have HS:=Lib.hid hS
 unfold maxLen at hm
 clear hn hS
 by_cases hbig:2000 < n
 ·have h2:(2000:Int) < (n:Int):=by omega
  obtain rfl:S=false:=by rw [←HS.out];exact decide_eq_false fun hr=>by have:=hr.1;have:=HN.out;omega
  go_enter Tryz.func25,Tryz.ntmps25
  go_wp2
  go_ret
  exact ⟨rfl,Below.refl _ _⟩
 have h2:¬ (2000:Int) < (n:Int):=by omega
 go_enter Tryz.func25,Tryz.ntmps25
 go_wp2
 go_loopw [10] (fun s10 wr=>∃ i:Nat,s10=.int .i64 (i:Int)∧i≤n∧Hid (OkTo c i)∧Hid (Below w.heap.size w wr)) (fun s10 _=>n - (intOf s10).toNat)
 case atStart=>exact ⟨0,rfl,Nat.zero_le _,Lib.hid (fun j x hj=>absurd hj (Nat.not_lt_zero _)),Lib.hid (Below.refl _ _)⟩
 case round =>
  obtain ⟨i,rfl,hin,HO,HB⟩:=hrel
  by_cases hlt:i < n
  ·obtain ⟨x,hx⟩:∃ x,c[i]?=some x:=⟨_,List.getElem?_eq_getElem (by rw [HN.out];exact hlt)⟩
   obtain ⟨b,o,rfl,hat⟩:=ElsV.at_ HV.out hx
   have hatw:=hat.keep HB.out hat.lt
   obtain ⟨r0,r1,r2,r3,r4,r5⟩:=fact6 hatw
   simp only [show encF.k=6 from rfl] at r0 r1 r2 r3 r4 r5
   have HX:=Lib.hid hx
   obtain ⟨W1,hW1⟩:∃ W1,wr.alloc (.cells #[.string x.key.e,.string x.key.a,.string x.key.f,.string x.key.p,.int .i64 x.key.m,.int .i64 x.amt] 62)=W1:=⟨_,rfl⟩
   have HB1:Hid (Below w.heap.size w W1):=Lib.hid (by rw [←hW1];exact HB.out.alloc HB.out.size _)
   have HBX:Hid (BoxE encF W1 wr.heap.size 62 x):=Lib.hid (by rw [←hW1];exact BoxE.new encF wr x 62)
   obtain ⟨d0,d1,d2,d3,d4,d5⟩:=fact6 HBX.out.at0
   simp only [Nat.zero_add] at d0 d1 d2 d3 d4 d5
   have u0:=fun p:Past W1=>cell_past d0 p
   have u1:=fun p:Past W1=>cell_past d1 p
   have u2:=fun p:Past W1=>cell_past d2 p
   have u3:=fun p:Past W1=>cell_past d3 p
   have u4:=fun p:Past W1=>cell_past d4 p
   have u5:=fun p:Past W1=>cell_past d5 p
   clear hx hat d0 d1 d2 d3 d4 d5
   by_cases h0:x.amt=0
   ·have hSf:S=false:=by rw [←HS.out,right_no0 HX.out h0]
    subst hSf
    have hz:(x.amt==0)=true:=by rw [beq_iff_eq];exact h0
    clear h0
    go_wp2_with fail
    refine wp_region_past (by kernel_rfl) (by kernel_rfl) ?_
    repeat (go_big_quiet_step (fail))
    refine wpQuiet_nil ?_
    intro _ hw'
    obtain ⟨⟨w3,hb3⟩,rfl⟩:=hw'
    clear u0 u1 u2 u3 u4 u5
    go_wp2
    go_ret
    exact ⟨rfl,HB1.out.trans (hb3.mono HB1.out.size)⟩
   ·have hz:(x.amt==0)=false:=by rw [beq_eq_false_iff_ne];exact h0
    by_cases hi0:i=0
    ·subst hi0
     have HO1:=Lib.hid (okTo_next HO.out HX.out h0 (fun y h=>absurd h (Nat.lt_irrefl 0)))
     clear h0
     simp only [Nat.zero_mul,Nat.add_zero] at r0 r1 r2 r3 r4 r5
     go_wp2_with fail
     refine wp_region_past (by kernel_rfl) (by kernel_rfl) ?_
     repeat (go_big_quiet_step (fail))
     refine wpQuiet_nil ?_
     intro _ hw'
     obtain ⟨⟨w3,hb3⟩,rfl⟩:=hw'
     clear u0 u1 u2 u3 u4 u5
     go_wp2
     go_roundw
     case rel=>exact ⟨0+1,by go_num,by omega,HO1,Lib.hid (HB1.out.trans (hb3.mono HB1.out.size))⟩
     case measure=>simp [intOf];omega
    ·obtain ⟨k,rfl⟩:∃ k,i=k+1:=⟨i - 1,by omega⟩
     obtain ⟨y,hy⟩:∃ y,c[k]?=some y:=⟨_,List.getElem?_eq_getElem (by rw [HN.out];omega)⟩
     obtain ⟨b',o',e,hat⟩:=ElsV.at_ HV.out hy
     cases e
     obtain ⟨s0,s1,s2,s3,s4,s5⟩:=fact6 (hat.keep HB1.out hat.lt)
     simp only [show encF.k=6 from rfl] at s0 s1 s2 s3 s4 s5
     have q0:=fun p:Past W1=>cell_past s0 p
     have q1:=fun p:Past W1=>cell_past s1 p
     have q2:=fun p:Past W1=>cell_past s2 p
     have q3:=fun p:Past W1=>cell_past s3 p
     have q4:=fun p:Past W1=>cell_past s4 p
     have q5:=fun p:Past W1=>cell_past s5 p
     have HY:=Lib.hid hy
     obtain ⟨m,hmm⟩:∃ m,cmpK y.key x.key=m:=⟨_,rfl⟩
     have HAG:=Lib.hid (fun W=>(against_any y x.key W).mono fun _ _ ⟨h1,h2⟩=>And.intro h1 h2.below)
     have HM:Hid (ltK y.key x.key ↔ m < 0):=Lib.hid (by unfold ltK;rw [hmm])
     simp only [hmm] at HAG
     have hwm:IntKind.i64.wrap (k:Int)=(k:Int):=by rw [IntKind.wrap_i64];omega
     have hpos:decide ((0:Int) < (k:Int)+1)=true:=decide_eq_true (by omega)
     have hH0:=Lib.hid h0
     clear hmm hy hat s0 s1 s2 s3 s4 s5 h0 hi0
     by_cases hm0:m < 0
     ·have HO1:=Lib.hid (okTo_next HO.out HX.out hH0.out (fun z _ hz=>by
       rw [Nat.add_sub_cancel,HY.out] at hz
       cases hz
       exact HM.out.2 hm0))
      have hd:decide (0≤m)=false:=decide_eq_false (by omega)
      have hd2:decide (m < 0)=true:=decide_eq_true hm0
      go_wp2_with fail
      refine wp_region_past (by kernel_rfl) (by kernel_rfl) ?_
      repeat (go_big_quiet_step ((go_at_call 43;exact Calls.past_of (HAG.out _))))
      refine wpQuiet_nil ?_
      intro _ hw'
      obtain ⟨⟨w3,hb3⟩,rfl⟩:=hw'
      clear q0 u0 q1 u1 q2 u2 q3 u3 q4 u4 q5 u5
      go_wp2
      go_roundw
      case rel=>exact ⟨k+1+1,by go_num,by omega,HO1,Lib.hid (HB1.out.trans (hb3.mono HB1.out.size))⟩
      case measure=>simp [intOf];omega
     ·have hSf:S=false:=by rw [←HS.out,right_no1 (Nat.succ_pos k) HX.out (by exact HY.out) (fun h=>hm0 (HM.out.1 h))]
      subst hSf
      have hd:decide (0≤m)=true:=decide_eq_true (by omega)
      have hd2:decide (m < 0)=false:=decide_eq_false hm0
      go_wp2_with fail
      refine wp_region_past (by kernel_rfl) (by kernel_rfl) ?_
      repeat (go_big_quiet_step ((go_at_call 43;exact Calls.past_of (HAG.out _))))
      refine wpQuiet_nil ?_
      intro _ hw'
      obtain ⟨⟨w3,hb3⟩,rfl⟩:=hw'
      clear q0 u0 q1 u1 q2 u2 q3 u3 q4 u4 q5 u5
      go_wp2
      go_ret
      exact ⟨rfl,HB1.out.trans (hb3.mono HB1.out.size)⟩
  ·obtain rfl:i=n:=by omega
   have hSt:S=true:=by rw [←HS.out,right_yes HN.out (by omega) HO.out]
   subst hSt
   go_wp2
   go_ret
   exact ⟨rfl,HB.out⟩
end Go.Proofs.YtfhhihamndbcnaaGreatDoor.Fa
end
