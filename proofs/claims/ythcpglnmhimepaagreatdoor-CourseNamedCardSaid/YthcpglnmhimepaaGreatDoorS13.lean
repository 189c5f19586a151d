/- UnitOrd UnitSane FlowOf FlowRight -/
import Derived.OwnWalk
import Derived.RegionTactic
import Derived.Test.YthcpglnmhimepaaGreatDoorS04
import Derived.Test.YthcpglnmhimepaaGreatDoorS05
import Derived.Test.YthcpglnmhimepaaGreatDoorS07
section
namespace Go.Proofs.YthcpglnmhimepaaGreatDoor.Un
open Go.RowKit
theorem ent2 {w:World} {b o:Nat} {f:Ent} (h:ElAt encE w b o f):w.cell? ⟨b,o,none⟩=some (.string f.code)∧w.cell? ⟨b,o+1,none⟩=some (.string f.cur):=⟨h 0 _ rfl,h 1 _ rfl⟩
theorem lin3 {w:World} {b o:Nat} {f:Lin} (h:ElAt encL w b o f):w.cell? ⟨b,o,none⟩=some (.string f.acc)∧w.cell? ⟨b,o+1,none⟩=some (.string f.flow)∧w.cell? ⟨b,o+2,none⟩=some (.string f.goal):=⟨h 0 _ rfl,h 1 _ rfl,h 2 _ rfl⟩
abbrev aggE (f:Ent):Value:=.agg #[.string f.code,.string f.cur]
abbrev aggN (f:Lin):Value:=.agg #[.string f.acc,.string f.flow,.string f.goal]
def cmpE (x y:Ent):Int:=Fl.cmpB x.code y.code
def cmpN (x y:Lin):Int:=if Fl.cmpB x.acc y.acc=0 then Fl.cmpB x.flow y.flow else Fl.cmpB x.acc y.acc
theorem cmpE_lt (x y:Ent):decide (cmpE x y < 0)=G.KeyO.lt x.code y.code:=Fl.cmpB_lt _ _
theorem cmpE_eq (x y:Ent):(cmpE x y==0)=decide (x.code=y.code):=Fl.cmpB_eq _ _
theorem cmpB_zero (x y:ByteArray):Fl.cmpB x y=0 ↔ x=y:=by
 have:=Fl.cmpB_eq x y
 rw [Bool.eq_iff_iff,beq_iff_eq,decide_eq_true_eq] at this
 exact this
theorem cmpN_lt (x y:Lin):decide (cmpN x y < 0)=G.KeyO.lt x.key y.key:=by
 show _=G.ltP x.key y.key
 unfold cmpN
 by_cases h:Fl.cmpB x.acc y.acc=0
 ·rw [if_pos h,Fl.cmpB_lt]
  have e:=(cmpB_zero _ _).1 h
  unfold G.ltP Lin.key
  simp only [e,ltS_irr,decide_true,Bool.false_or,Bool.true_and]
 ·rw [if_neg h,Fl.cmpB_lt]
  have e:x.acc≠y.acc:=fun e=>h ((cmpB_zero _ _).2 e)
  unfold G.ltP Lin.key
  simp only [e,decide_false,Bool.false_and,Bool.or_false]
theorem cmpN_eq (x y:Lin):(cmpN x y==0)=decide (x.key=y.key):=by
 rw [Bool.eq_iff_iff,beq_iff_eq,decide_eq_true_eq]
 unfold cmpN Lin.key
 by_cases h:Fl.cmpB x.acc y.acc=0
 ·rw [if_pos h,cmpB_zero,Prod.mk.injEq]
  exact ⟨fun e=>⟨(cmpB_zero _ _).1 h,e⟩,fun e=>e.2⟩
 ·rw [if_neg h,Prod.mk.injEq]
  exact ⟨fun e=>absurd e h,fun e=>absurd ((cmpB_zero _ _).2 e.1) h⟩
set_option maxHeartbeats 1000000 in
theorem againstE_any (x y:Ent) (w:World) :
 Calls Tryz.prog 107 #[aggE x,aggE y] w fun e w'=>e=.returned (.int .i64 (cmpE x y))∧Below w.heap.size w w':=by
 have HB:=Lib.hid (((Below.refl w.heap.size w).alloc (Nat.le_refl _) (.cells #[.string x.code,.string x.cur] 206)).alloc (by simp) (.cells #[.string y.code,.string y.cur] 206))
 go_enter Tryz.func107,Tryz.ntmps107
 go_wp2_with (go_at_call 99;refine (Fl.compare_any _ _ _).mono ?_;rintro e w' ⟨rfl,rfl⟩)
 go_ret
 exact ⟨rfl,HB.out⟩
def orI (x y:Int):Int:=if x=0 then y else x
set_option maxHeartbeats 1000000 in
theorem cmpOr_any (x y:Int) (b:Nat) (w:World) (c0:w.cell? ⟨b,0,none⟩=some (.int .i64 x)) (c1:w.cell? ⟨b,1,none⟩=some (.int .i64 y)) :
 Calls Tryz.prog 98 #[.slice (some ⟨b,0,none⟩) 2 2] w fun e w'=>e=.returned (.int .i64 (orI x y))∧w'=w:=by
 by_cases hx:x=0
 ·subst hx
  by_cases hy:y=0
  ·subst hy
   go_enter Tryz.func98,Tryz.ntmps98
   go_wp2
   refine wp_loop_rounds 3 ?_
   rw [rounds_succ]
   go_wp2
   rw [rounds_succ]
   go_wp2
   rw [rounds_succ]
   go_wp2
   go_ret
   exact ⟨rfl,rfl⟩
  ·have e:orI 0 y=y:=by simp [orI]
   rw [e]
   go_enter Tryz.func98,Tryz.ntmps98
   go_wp2
   refine wp_loop_rounds 2 ?_
   rw [rounds_succ]
   go_wp2
   rw [rounds_succ]
   go_wp2
   go_ret
   exact ⟨rfl,rfl⟩
 ·have e:orI x y=x:=by simp [orI,hx]
  rw [e]
  go_enter Tryz.func98,Tryz.ntmps98
  go_wp2
  refine wp_loop_rounds 1 ?_
  rw [rounds_succ]
  go_wp2
  go_ret
  exact ⟨rfl,rfl⟩
end Go.Proofs.YthcpglnmhimepaaGreatDoor.Un
end
section
namespace Go.Proofs.YthcpglnmhimepaaGreatDoor.Un
open Go.RowKit
structure Sane (M:Mast):Prop where
 ch:riseL M.chart=true
 fl:Fl.riseF M.flows=true
 en:G.riseK Ent.code M.ents=true
 li:G.riseK Lin.key M.lines=true
 lc:M.chart.length≤60
 lf:M.flows.length≤60
 le:M.ents.length≤60
 ll:M.lines.length≤1000
theorem Sane.zero:Sane zeroM:=⟨rfl,by decide,rfl,rfl,by decide,by decide,by decide,by decide⟩
theorem entE_zero {L:List Ent} {x:Ent} (h:entE L x=0):G.findK Ent.code L x.code=none∧L.length < 60:=by
 unfold entE at h
 cases hf:G.findK Ent.code L x.code with
 | some y=>rw [hf] at h;simp at h
 | none =>
   rw [hf] at h
   simp only [Option.isSome_none,Bool.false_eq_true,if_false] at h
   refine ⟨rfl,?_⟩
   split at h
   ·simp at h
   ·omega
theorem linEr_zero {L:List Lin} {x:Lin} (h:linEr L x=0):G.findK Lin.key L x.key=none∧L.length < 1000:=by
 unfold linEr at h
 cases hf:G.findK Lin.key L x.key with
 | some y=>rw [hf] at h;simp at h
 | none =>
   rw [hf] at h
   simp only [Option.isSome_none,Bool.false_eq_true,if_false] at h
   refine ⟨rfl,?_⟩
   split at h
   ·simp at h
   ·omega
theorem oneE_zero {x:ByteArray} (h:oneE x=0):x=emp:=by
 unfold oneE at h
 split at h
 ·assumption
 ·simp at h
theorem step_ways {M:Mast} {ws:List ByteArray} (h:stepE M ws=0) :
 (wd ws 0=tAccount∧(parseA ws).2=0∧addE M.chart (parseA ws).1=0∧stepV M ws={ M with chart:=insL M.chart (parseA ws).1 }) ∨
 (wd ws 0=Fl.tFlow∧(Fl.parseF ws).2=0∧Fl.addE M.flows (Fl.parseF ws).1=0∧stepV M ws={ M with flows:=insK Fl.Flow.code M.flows (Fl.parseF ws).1 }) ∨
 (formedW ws=true∧wd ws 0=tEntity∧entE M.ents (entOf ws)=0∧stepV M ws={ M with ents:=G.insK Ent.code M.ents (entOf ws) }) ∨
 (formedW ws=true∧wd ws 0=tMap∧linEr M.lines (linOf ws)=0∧stepV M ws={ M with lines:=G.insK Lin.key M.lines (linOf ws) }) ∨
 (formedW ws=true∧wd ws 0=tGroup∧M.cur=emp∧stepV M ws={ M with cur:=wd ws 1 }) ∨
 (formedW ws=true∧wd ws 0=tReserve∧M.res=emp∧stepV M ws={ M with res:=wd ws 1 }) ∨
 (formedW ws=true∧wd ws 0=tDiffer∧M.dif=emp∧stepV M ws={ M with dif:=wd ws 1 }) ∨
 (formedW ws=true∧wd ws 0=tMinor∧M.min=emp∧stepV M ws={ M with min:=wd ws 1 }) ∨
 (formedW ws=true∧wd ws 0=tStake∧M.stk=emp∧stepV M ws={ M with stk:=wd ws 1 }):=by
 unfold stepE at h
 unfold stepV
 by_cases h1:wd ws 0=tAccount
 ·rw [if_pos h1] at h ⊢
  by_cases hp:(parseA ws).2=0
  ·rw [if_pos hp] at h;exact .inl ⟨h1,hp,h,rfl⟩
  ·rw [if_neg hp] at h;exact absurd h hp
 rw [if_neg h1] at h ⊢
 by_cases h2:wd ws 0=Fl.tFlow
 ·rw [if_pos h2] at h ⊢
  by_cases hp:(Fl.parseF ws).2=0
  ·rw [if_pos hp] at h;exact .inr (.inl ⟨h2,hp,h,rfl⟩)
  ·rw [if_neg hp] at h;exact absurd h hp
 rw [if_neg h2] at h ⊢
 cases hf:formedW ws with
 | false=>rw [if_pos hf] at h;simp at h
 | true =>
   rw [if_neg (by rw [hf];simp)] at h
   by_cases h3:wd ws 0=tEntity
   ·rw [if_pos h3] at h ⊢;exact .inr (.inr (.inl ⟨rfl,h3,h,rfl⟩))
   rw [if_neg h3] at h ⊢
   by_cases h4:wd ws 0=tMap
   ·rw [if_pos h4] at h ⊢;exact .inr (.inr (.inr (.inl ⟨rfl,h4,h,rfl⟩)))
   rw [if_neg h4] at h ⊢
   by_cases h5:wd ws 0=tGroup
   ·rw [if_pos h5] at h ⊢;exact .inr (.inr (.inr (.inr (.inl ⟨rfl,h5,oneE_zero h,rfl⟩))))
   rw [if_neg h5] at h ⊢
   by_cases h6:wd ws 0=tReserve
   ·rw [if_pos h6] at h ⊢;exact .inr (.inr (.inr (.inr (.inr (.inl ⟨rfl,h6,oneE_zero h,rfl⟩)))))
   rw [if_neg h6] at h ⊢
   by_cases h7:wd ws 0=tDiffer
   ·rw [if_pos h7] at h ⊢;exact .inr (.inr (.inr (.inr (.inr (.inr (.inl ⟨rfl,h7,oneE_zero h,rfl⟩))))))
   rw [if_neg h7] at h ⊢
   by_cases h8:wd ws 0=tMinor
   ·rw [if_pos h8] at h ⊢;exact .inr (.inr (.inr (.inr (.inr (.inr (.inr (.inl ⟨rfl,h8,oneE_zero h,rfl⟩)))))))
   rw [if_neg h8] at h ⊢
   refine .inr (.inr (.inr (.inr (.inr (.inr (.inr (.inr ⟨rfl,?_,oneE_zero h,rfl⟩)))))))
   unfold formedW at hf
   rw [Bool.and_eq_true,Bool.and_eq_true,decide_eq_true_eq,decide_eq_true_eq] at hf
   have hl:=hf.2.1
   unfold lenW at hl
   by_cases h9:wd ws 0=tStake
   ·exact h9
   ·rw [if_neg (by simp [h5,h6,h7,h8,h9]),if_neg h3,if_neg h4] at hl
    have:=hf.1
    omega
theorem Sane.step {M:Mast} {ws:List ByteArray} (hs:Sane M) (h:stepE M ws=0):Sane (stepV M ws):=by
 rcases step_ways h with ⟨_,_,ha,e⟩ | ⟨_,_,ha,e⟩ | ⟨_,_,ha,e⟩ | ⟨_,_,ha,e⟩ | ⟨_,_,_,e⟩ | ⟨_,_,_,e⟩ | ⟨_,_,_,e⟩ | ⟨_,_,_,e⟩ | ⟨_,_,_,e⟩ <;> rw [e]
 ·obtain ⟨_,h2,h3⟩:=addE_zero ha
  exact ⟨rise_ins _ _ hs.ch h2,hs.fl,hs.en,hs.li,by show (insL _ _).length≤60;rw [insL_length];omega,hs.lf,hs.le,hs.ll⟩
 ·obtain ⟨_,_,_,h3⟩:=Fl.addE_zero (Fl.rise_codes hs.fl) ha
  exact ⟨hs.ch,Fl.rise_ins hs.fl ha,hs.en,hs.li,hs.lc,by show (insK _ _ _).length≤60;rw [insK_length];omega,hs.le,hs.ll⟩
 ·obtain ⟨h2,h3⟩:=entE_zero ha
  exact ⟨hs.ch,hs.fl,G.riseK_ins _ _ hs.en h2,hs.li,hs.lc,hs.lf,by show (G.insK _ _ _).length≤60;rw [G.insK_length];omega,hs.ll⟩
 ·obtain ⟨h2,h3⟩:=linEr_zero ha
  exact ⟨hs.ch,hs.fl,hs.en,G.riseK_ins _ _ hs.li h2,hs.lc,hs.lf,hs.le,by show (G.insK _ _ _).length≤1000;rw [G.insK_length];omega⟩
 all_goals exact ⟨hs.ch,hs.fl,hs.en,hs.li,hs.lc,hs.lf,hs.le,hs.ll⟩
def keyIn (M:Mast) (a b c:ByteArray):Bool :=
 if a=tEntity then (G.findK Ent.code M.ents b).isSome
 else if a=tMap then (G.findK Lin.key M.lines (b,c)).isSome
 else if a=tGroup then decide (M.cur≠emp)
 else if a=tReserve then decide (M.res≠emp)
 else if a=tDiffer then decide (M.dif≠emp)
 else if a=tMinor then decide (M.min≠emp)
 else decide (M.stk≠emp)
def keyB (ws:List ByteArray):ByteArray:=if wd ws 0=tEntity then wd ws 1 else if wd ws 0=tMap then wd ws 1 else emp
def keyC (ws:List ByteArray):ByteArray:=if wd ws 0=tEntity then emp else if wd ws 0=tMap then wd ws 2 else emp
def hadW (M:Mast) (ws:List ByteArray):Bool:=keyIn M (wd ws 0) (keyB ws) (keyC ws)
def keepE (M:Mast) (ws:List ByteArray):Int :=
 if wd ws 0=tEntity then (if 60≤M.ents.length then 4 else 0) else if wd ws 0=tMap then (if 1000≤M.lines.length then 4 else 0) else 0
theorem oneE_eq (x:ByteArray):oneE x=if decide (x≠emp)=true then 7 else 0:=by
 unfold oneE
 by_cases h:x=emp <;> simp [h]
theorem step_formed {M:Mast} {ws:List ByteArray} (h1:wd ws 0≠tAccount) (h2:wd ws 0≠Fl.tFlow) (h3:formedW ws=true):stepE M ws=if hadW M ws=true then 7 else keepE M ws:=by
 unfold stepE hadW keyIn keepE
 rw [if_neg h1,if_neg h2,if_neg (by rw [h3];simp)]
 have t1:tMap≠tEntity:=by decide
 by_cases h4:wd ws 0=tEntity
 ·simp only [if_pos h4]
  unfold entE
  have:keyB ws=(entOf ws).code:=by unfold keyB;rw [if_pos h4];rfl
  rw [this]
 simp only [if_neg h4]
 by_cases h5:wd ws 0=tMap
 ·simp only [if_pos h5]
  unfold linEr
  have:(keyB ws,keyC ws)=(linOf ws).key:=by unfold keyB keyC;rw [if_neg h4,if_pos h5,if_neg h4,if_pos h5];rfl
  rw [this]
 simp only [if_neg h5]
 by_cases h6:wd ws 0=tGroup
 ·simp only [if_pos h6];exact oneE_eq _
 simp only [if_neg h6]
 by_cases h7:wd ws 0=tReserve
 ·simp only [if_pos h7];exact oneE_eq _
 simp only [if_neg h7]
 by_cases h8:wd ws 0=tDiffer
 ·simp only [if_pos h8];exact oneE_eq _
 simp only [if_neg h8]
 by_cases h9:wd ws 0=tMinor
 ·simp only [if_pos h9];exact oneE_eq _
 simp only [if_neg h9];exact oneE_eq _
end Go.Proofs.YthcpglnmhimepaaGreatDoor.Un
end
section
namespace Go.Proofs.YthcpglnmhimepaaGreatDoor.Fl
open Go.RowKit
theorem info_str:(Tryz.prog.info? 9).map (fun i=>(i.zero,i.size,i.bytes))=some (some (.string ⟨#[]⟩),1,16):=by kernel_rfl
def StrsTold (w:World) (ws:List ByteArray) (e:Ending) (w':World):Prop:=∃ v,e=.returned v∧StrsV w' v ws∧Below w.heap.size w w'
def OfAt (w:World) (e:TypeId) (L:List Flow) (k:Int) (s5 si:Value) (wr:World):Prop :=
 ∃ i:Nat,i≤L.length∧si=.int .i64 (i:Int)∧wr.ownsRow w.heap.size e 1 s5 (ofF (L.take i) k).length ((ofF (L.take i) k).map Value.string)∧Below w.heap.size w wr
theorem ofF_snoc (L:List Flow) (f:Flow) (k:Int):ofF (L++[f]) k=if f.kind=k then ofF L k++[f.code] else ofF L k:=by
 unfold ofF
 rw [List.filter_append,List.map_append,List.filter_cons]
 by_cases h:f.kind=k <;> simp [h]
theorem ofF_len_le (L:List Flow) (k:Int):(ofF L k).length≤L.length:=by rw [ofF_length];exact List.length_filter_le _ _
set_option maxRecDepth 100000 in
set_option maxHeartbeats 2000000 in
theorem of_any (v:Value) (L:List Flow) (k:Int) (w:World) (h:FlowsV w v L) (hL:L.length≤1000) :
 Calls Tryz.prog 152 #[v,.int .i64 k] w (StrsTold w (ofF L k)):=by
 obtain ⟨a,c,rfl,hcap,hm,_,hc⟩:=h
 obtain ⟨i0,hi,hz0,hz1,hz2⟩:=info_parts info_str
 have HI:=Lib.hid (And.intro hi (And.intro hz0 (And.intro hz1 hz2)))
 have HC:=Lib.hid hc
 clear hi hz0 hz1 hz2 hc
 unfold maxLen at hm
 go_enter Tryz.func152,Tryz.ntmps152
 go_wp2
 go_loopw [5,10] (fun s5 s10 wr=>OfAt w 9 L k s5 s10 wr) (fun _ s10 _=>L.length - (intOf s10).toNat)
 case atStart=>exact ⟨0,Nat.zero_le _,rfl,World.ownsRow_nil _ _ _ _,Below.refl _ _⟩
 case round =>
  obtain ⟨i,hik,rfl,hown,hnx⟩:=hrel
  by_cases hlt:i < L.length
  ·obtain ⟨x,hx⟩:∃ x,L[i]?=some x:=⟨_,List.getElem?_eq_getElem hlt⟩
   obtain ⟨b,o,rfl,hat⟩:=HC.out i x hx
   obtain ⟨c0,c1⟩:=two (hat.keep hnx hat.lt)
   have HT:Hid (ofF (L.take (i+1)) k=if x.kind=k then ofF (L.take i) k++[x.code] else ofF (L.take i) k):=Lib.hid (by
    rw [take_at L i hlt]
    rw [List.getElem?_eq_getElem hlt] at hx
    rw [Option.some.inj hx];exact ofF_snoc _ _ _)
   have hle:=ofF_len_le (L.take i) k
   have hlk:(L.take i).length=i:=by rw [List.length_take];omega
   rw [hlk] at hle
   have HLE:=Lib.hid hle
   have hsz:=hnx.size
   clear hx hat hlk hle
   by_cases hk:x.kind=k
   ·have hkz:(x.kind==k)=true:=by simpa using hk
    have HKK:=Lib.hid hk
    clear hk
    go_wp2_with (at_builtin;refine wpList_append_own _ rfl _ _ 66 rfl w.heap.size 9 i0 (.string ⟨#[]⟩) 1 16 Tryz.underlying66 HI.out.1 HI.out.2.1 HI.out.2.2.1 HI.out.2.2.2 rfl (by decide) _ _ _ rfl ((hown.alloc _).alloc _) ⟨wr.heap.size+1,0,none⟩ 1 1 [.string x.code] rfl rfl (new_cells2 wr _ [.string x.code] _) (by intro u hu;simp at hu;subst hu;rfl) (by have:=HLE.out;unfold maxLen;omega) (by have:=HLE.out;omega) (by simp;omega) ?_;intro v' w1 hown' hgrow _)
    go_roundw
    case rel =>
     refine ⟨i+1,by omega,by go_num,?_,?_⟩
     ·rw [HT.out,if_pos HKK.out,List.length_append,List.map_append];exact hown'
     ·exact below_grown ((hnx.alloc hsz _).alloc (by simp;omega) _) (by simp;omega) ((hown.alloc _).alloc _) hgrow
    case measure=>simp [intOf];omega
   ·have hkz:(x.kind==k)=false:=by simpa using hk
    have HKK:=Lib.hid hk
    clear hk
    go_wp2
    go_roundw
    case rel =>
     refine ⟨i+1,by omega,by go_num,?_,?_⟩
     ·rw [HT.out,if_neg HKK.out];exact hown.alloc _
     ·exact hnx.alloc hsz _
    case measure=>simp [intOf];omega
  ·have hf:StrsV wr u5 (ofF L k):=by
    have:L.take i=L:=List.take_of_length_le (by omega)
    rw [this] at hown
    exact strs_of_own hown
   have HF:=Lib.hid hf
   clear hf
   go_wp2
   go_ret
   exact ⟨_,rfl,HF.out,hnx⟩
set_option maxRecDepth 100000 in
set_option maxHeartbeats 2000000 in
theorem rof_any (v:Value) (L:List Flow) (k:Int) (w:World) (h:FlowsV w v L) (hL:L.length≤1000) :
 Calls Tryz.prog 118 #[v,.int .i64 k] w (StrsTold w (ofF L k)):=by
 obtain ⟨a,c,rfl,hcap,hm,_,hc⟩:=h
 obtain ⟨i0,hi,hz0,hz1,hz2⟩:=info_parts info_str
 have HI:=Lib.hid (And.intro hi (And.intro hz0 (And.intro hz1 hz2)))
 have HC:=Lib.hid hc
 clear hi hz0 hz1 hz2 hc
 unfold maxLen at hm
 go_enter Tryz.func118,Tryz.ntmps118
 go_wp2
 go_loopw [5,6] (fun s5 s6 wr=>OfAt w 9 L k s5 s6 wr) (fun _ s6 _=>L.length - (intOf s6).toNat)
 case atStart=>exact ⟨0,Nat.zero_le _,rfl,World.ownsRow_nil _ _ _ _,Below.refl _ _⟩
 case round =>
  obtain ⟨i,hik,rfl,hown,hnx⟩:=hrel
  by_cases hlt:i < L.length
  ·obtain ⟨x,hx⟩:∃ x,L[i]?=some x:=⟨_,List.getElem?_eq_getElem hlt⟩
   obtain ⟨b,o,rfl,hat⟩:=HC.out i x hx
   obtain ⟨c0,c1⟩:=two (hat.keep hnx hat.lt)
   have HT:Hid (ofF (L.take (i+1)) k=if x.kind=k then ofF (L.take i) k++[x.code] else ofF (L.take i) k):=Lib.hid (by
    rw [take_at L i hlt]
    rw [List.getElem?_eq_getElem hlt] at hx
    rw [Option.some.inj hx];exact ofF_snoc _ _ _)
   have hle:=ofF_len_le (L.take i) k
   have hlk:(L.take i).length=i:=by rw [List.length_take];omega
   rw [hlk] at hle
   have HLE:=Lib.hid hle
   have hsz:=hnx.size
   clear hx hat hlk hle
   by_cases hk:x.kind=k
   ·have hkz:(x.kind==k)=true:=by simpa using hk
    have HKK:=Lib.hid hk
    clear hk
    go_wp2_with (at_builtin;refine wpList_append_own _ rfl _ _ 66 rfl w.heap.size 9 i0 (.string ⟨#[]⟩) 1 16 Tryz.underlying66 HI.out.1 HI.out.2.1 HI.out.2.2.1 HI.out.2.2.2 rfl (by decide) _ _ _ rfl (hown.alloc _) ⟨wr.heap.size,0,none⟩ 1 1 [.string x.code] rfl rfl (new_cells wr [.string x.code] _) (by intro u hu;simp at hu;subst hu;rfl) (by have:=HLE.out;unfold maxLen;omega) (by have:=HLE.out;omega) (by simp;omega) ?_;intro v' w1 hown' hgrow _)
    go_roundw
    case rel =>
     refine ⟨i+1,by omega,by go_num,?_,?_⟩
     ·rw [HT.out,if_pos HKK.out,List.length_append,List.map_append];exact hown'
     ·exact below_grown (hnx.alloc hsz _) (by simp;omega) (hown.alloc _) hgrow
    case measure=>simp [intOf];omega
   ·have hkz:(x.kind==k)=false:=by simpa using hk
    have HKK:=Lib.hid hk
    clear hk
    go_wp2
    go_roundw
    case rel =>
     refine ⟨i+1,by omega,by go_num,?_,?_⟩
     ·rw [HT.out,if_neg HKK.out];exact hown
     ·exact hnx
    case measure=>simp [intOf];omega
  ·have hf:StrsV wr u5 (ofF L k):=by
    have:L.take i=L:=List.take_of_length_le (by omega)
    rw [this] at hown
    exact strs_of_own hown
   have HF:=Lib.hid hf
   clear hf
   go_wp2
   go_ret
   exact ⟨_,rfl,HF.out,hnx⟩
set_option maxRecDepth 100000 in
set_option maxHeartbeats 2000000 in
theorem has_any (v:Value) (L:List Flow) (k:Int) (w:World) (h:FlowsV w v L) (hL:L.length≤1000) :
 Calls Tryz.prog 112 #[v,.int .i64 k] w fun e w'=>e=.returned (.bool (hasF L k))∧Below w.heap.size w w':=by
 obtain ⟨r,hr⟩:∃ r,hasF L k=r:=⟨_,rfl⟩
 rw [hr]
 have HR:=Lib.hid hr
 clear hr
 have HV:=Lib.hid h
 obtain ⟨a,c,rfl,hcap,hm,_,hc⟩:=h
 clear hc
 unfold maxLen at hm
 go_enter Tryz.func112,Tryz.ntmps112
 go_wp2_with fail
 refine (of_any _ L k _ HV.out hL).mono ?_
 rintro e w1 ⟨v1,rfl,hs1,hb1⟩
 obtain ⟨p1,c1,rfl,_,hm1,_⟩:=hs1
 have HB1:=Lib.hid hb1
 obtain ⟨n,hn⟩:∃ n,(ofF L k).length=n:=⟨_,rfl⟩
 have hrn:Hid (r=decide (0 < n)):=Lib.hid (by rw [←HR.out,←hn];rfl)
 rw [hn] at hm1 ⊢
 unfold maxLen at hm1
 clear hn hb1
 by_cases h0:0 < n
 ·have h0z:(0:Int) < (n:Int):=by omega
  go_wp2
  go_ret
  exact ⟨ret_bool (by rw [hrn.out,decide_eq_true h0]),HB1.out⟩
 ·obtain rfl:n=0:=by omega
  go_wp2
  go_ret
  exact ⟨ret_bool (by rw [hrn.out];rfl),HB1.out⟩
set_option maxRecDepth 100000 in
set_option maxHeartbeats 2000000 in
theorem whole_any (v:Value) (L:List Flow) (w:World) (h:FlowsV w v L) (hL:L.length≤1000) :
 Calls Tryz.prog 72 #[v] w fun e w'=>e=.returned (.bool (wholeF L))∧Below w.heap.size w w':=by
 obtain ⟨b0,hb0⟩:∃ b,hasF L 0=b:=⟨_,rfl⟩
 obtain ⟨b2,hb2⟩:∃ b,hasF L 2=b:=⟨_,rfl⟩
 obtain ⟨b3,hb3⟩:∃ b,hasF L 3=b:=⟨_,rfl⟩
 obtain ⟨b4,hb4⟩:∃ b,hasF L 4=b:=⟨_,rfl⟩
 have HC0:=Lib.hid (fun W h=>has_any v L 0 W h hL)
 have HC2:=Lib.hid (fun W h=>has_any v L 2 W h hL)
 have HC3:=Lib.hid (fun W h=>has_any v L 3 W h hL)
 have HC4:=Lib.hid (fun W h=>has_any v L 4 W h hL)
 unfold wholeF
 rw [hb0] at HC0 ⊢
 rw [hb2] at HC2 ⊢
 rw [hb3] at HC3 ⊢
 rw [hb4] at HC4 ⊢
 have HV:=Lib.hid h
 clear h hb0 hb2 hb3 hb4
 cases b0 with
 | false =>
   go_enter Tryz.func72,Tryz.ntmps72
   go_wp2_with (go_at_call 112;refine (HC0.out _ HV.out).mono ?_;rintro e w1 ⟨rfl,hb1⟩)
   go_ret
   exact ⟨rfl,hb1⟩
 | true =>
   cases b2 with
   | false =>
     go_enter Tryz.func72,Tryz.ntmps72
     go_wp2_with fail
     refine (HC0.out _ HV.out).mono ?_
     rintro e w1 ⟨rfl,hb1⟩
     have HV1:=Lib.hid (HV.out.keep hb1)
     go_wp2_with (go_at_call 112;refine (HC2.out _ HV1.out).mono ?_;rintro e w2 ⟨rfl,hb2⟩)
     go_ret
     exact ⟨rfl,hb1.trans (hb2.mono hb1.size)⟩
   | true =>
     cases b3 with
     | false =>
       go_enter Tryz.func72,Tryz.ntmps72
       go_wp2_with fail
       refine (HC0.out _ HV.out).mono ?_
       rintro e w1 ⟨rfl,hb1⟩
       have HV1:=Lib.hid (HV.out.keep hb1)
       go_wp2_with fail
       refine (HC2.out _ HV1.out).mono ?_
       rintro e w2 ⟨rfl,hb2⟩
       have HV2:=Lib.hid (HV1.out.keep hb2)
       go_wp2_with (go_at_call 112;refine (HC3.out _ HV2.out).mono ?_;rintro e w3 ⟨rfl,hb3⟩)
       go_ret
       exact ⟨rfl,hb1.trans ((hb2.trans (hb3.mono hb2.size)).mono hb1.size)⟩
     | true =>
       go_enter Tryz.func72,Tryz.ntmps72
       go_wp2_with fail
       refine (HC0.out _ HV.out).mono ?_
       rintro e w1 ⟨rfl,hb1⟩
       have HV1:=Lib.hid (HV.out.keep hb1)
       go_wp2_with fail
       refine (HC2.out _ HV1.out).mono ?_
       rintro e w2 ⟨rfl,hb2⟩
       have HV2:=Lib.hid (HV1.out.keep hb2)
       go_wp2_with fail
       refine (HC3.out _ HV2.out).mono ?_
       rintro e w3 ⟨rfl,hb3⟩
       have HV3:=Lib.hid (HV2.out.keep hb3)
       go_wp2_with (go_at_call 112;refine (HC4.out _ HV3.out).mono ?_;rintro e w4 ⟨rfl,hb4⟩)
       go_ret
       exact ⟨ret_bool (by simp),hb1.trans ((hb2.trans ((hb3.trans (hb4.mono hb3.size)).mono hb2.size)).mono hb1.size)⟩
end Go.Proofs.YthcpglnmhimepaaGreatDoor.Fl
end
section
namespace Go.Proofs.YthcpglnmhimepaaGreatDoor.Fl
open Go.RowKit
theorem name_is (s:ByteArray) (b:Bool) (h:nmB s=b) (w:World):Calls Tryz.prog 86 #[.string s] w fun e w'=>e=.returned (.bool b)∧w=w':=by
 rw [←h];exact name_at s w
theorem rname_is (s:ByteArray) (b:Bool) (h:nmB s=b) (w:World):Calls Tryz.prog 52 #[.string s] w fun e w'=>e=.returned (.bool b)∧w=w':=by
 rw [←h];exact rname_at s w
set_option maxRecDepth 100000 in
set_option maxHeartbeats 4000000 in
theorem right_any (f:Flow) (w:World):Calls Tryz.prog 145 #[aggL f] w fun e w'=>e=.returned (.bool (rightF f))∧Below w.heap.size w w':=by
 have HB:=Lib.hid ((Below.refl w.heap.size w).alloc (Nat.le_refl _) (.cells #[.string f.code,.int .i64 f.kind] 70))
 obtain ⟨r,hr⟩:∃ r,rightF f=r:=⟨_,rfl⟩
 rw [hr]
 have HR:=Lib.hid hr
 clear hr
 obtain ⟨co,k⟩:=f
 simp only at HB HR ⊢
 cases hc:nmB co with
 | false =>
   have HC:=Lib.hid hc
   clear hc
   go_enter Tryz.func145,Tryz.ntmps145
   go_wp2_with (go_at_call 86;refine (name_is co _ HC.out _).mono ?_;rintro e w' ⟨rfl,rfl⟩)
   go_ret
   exact ⟨ret_bool (by rw [←HR.out];simp [rightF,HC.out]),HB.out⟩
 | true =>
   have HC:=Lib.hid hc
   clear hc
   by_cases h0:0≤k
   ·by_cases h5:k < 5
    ·go_enter Tryz.func145,Tryz.ntmps145
     go_wp2_with (go_at_call 86;refine (name_is co _ HC.out _).mono ?_;rintro e w' ⟨rfl,rfl⟩)
     go_ret
     exact ⟨ret_bool (by rw [←HR.out];simp [rightF,HC.out,h0,h5]),HB.out⟩
    ·go_enter Tryz.func145,Tryz.ntmps145
     go_wp2_with (go_at_call 86;refine (name_is co _ HC.out _).mono ?_;rintro e w' ⟨rfl,rfl⟩)
     go_ret
     exact ⟨ret_bool (by rw [←HR.out];have:¬ k < 5:=(by omega);simp [rightF,this]),HB.out⟩
   ·go_enter Tryz.func145,Tryz.ntmps145
    go_wp2_with (go_at_call 86;refine (name_is co _ HC.out _).mono ?_;rintro e w' ⟨rfl,rfl⟩)
    go_ret
    exact ⟨ret_bool (by rw [←HR.out];have:¬ 0≤k:=(by omega);simp [rightF,this]),HB.out⟩
set_option maxRecDepth 100000 in
set_option maxHeartbeats 4000000 in
theorem rright_any (f:Flow) (w:World):Calls Tryz.prog 116 #[aggL f] w fun e w'=>e=.returned (.bool (rightF f))∧Below w.heap.size w w':=by
 have HB:=Lib.hid ((Below.refl w.heap.size w).alloc (Nat.le_refl _) (.cells #[.string f.code,.int .i64 f.kind] 145))
 obtain ⟨r,hr⟩:∃ r,rightF f=r:=⟨_,rfl⟩
 rw [hr]
 have HR:=Lib.hid hr
 clear hr
 obtain ⟨co,k⟩:=f
 simp only at HB HR ⊢
 cases hc:nmB co with
 | false =>
   have HC:=Lib.hid hc
   clear hc
   go_enter Tryz.func116,Tryz.ntmps116
   go_wp2_with (go_at_call 52;refine (rname_is co _ HC.out _).mono ?_;rintro e w' ⟨rfl,rfl⟩)
   go_ret
   exact ⟨ret_bool (by rw [←HR.out];simp [rightF,HC.out]),HB.out⟩
 | true =>
   have HC:=Lib.hid hc
   clear hc
   by_cases h0:0≤k
   ·by_cases h5:k≤4
    ·go_enter Tryz.func116,Tryz.ntmps116
     go_wp2_with (go_at_call 52;refine (rname_is co _ HC.out _).mono ?_;rintro e w' ⟨rfl,rfl⟩)
     go_ret
     exact ⟨ret_bool (by rw [←HR.out];have:k < 5:=(by omega);simp [rightF,HC.out,h0,this]),HB.out⟩
    ·go_enter Tryz.func116,Tryz.ntmps116
     go_wp2_with (go_at_call 52;refine (rname_is co _ HC.out _).mono ?_;rintro e w' ⟨rfl,rfl⟩)
     go_ret
     exact ⟨ret_bool (by rw [←HR.out];have:¬ k < 5:=(by omega);simp [rightF,this];omega),HB.out⟩
   ·go_enter Tryz.func116,Tryz.ntmps116
    go_wp2_with (go_at_call 52;refine (rname_is co _ HC.out _).mono ?_;rintro e w' ⟨rfl,rfl⟩)
    go_ret
    exact ⟨ret_bool (by rw [←HR.out];have:¬ 0≤k:=(by omega);simp [rightF,this]),HB.out⟩
end Go.Proofs.YthcpglnmhimepaaGreatDoor.Fl
end
