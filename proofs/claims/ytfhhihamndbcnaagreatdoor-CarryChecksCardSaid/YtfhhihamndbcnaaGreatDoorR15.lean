/- UnitSane ChartOurs ChartClone -/
import Derived.Lib.SliceRun
import Derived.OwnWalk
import Derived.Test.YtfhhihamndbcnaaGreatDoorR07
import Derived.Test.YtfhhihamndbcnaaGreatDoorR08
section
namespace Go.Proofs.YtfhhihamndbcnaaGreatDoor.Un
open Go.RowKit
structure Sane (M:Mast):Prop where
 ch:riseL M.chart=true
 fl:Fl.riseF M.flows=true
 en:G.riseK Ent.code M.ents=true
 li:G.riseK Lin.key M.lines=true
 lc:M.chart.length≤60
 lf:M.flows.length≤60
 le:M.ents.length≤60
 ll:M.lines.length≤1000
theorem Sane.zero:Sane zeroM:=⟨rfl,by decide,rfl,rfl,by decide,by decide,by decide,by decide⟩
theorem entE_zero {L:List Ent} {x:Ent} (h:entE L x=0):G.findK Ent.code L x.code=none∧L.length < 60:=by
 unfold entE at h
 cases hf:G.findK Ent.code L x.code with
 | some y=>rw [hf] at h;simp at h
 | none =>
   rw [hf] at h
   simp only [Option.isSome_none,Bool.false_eq_true,if_false] at h
   refine ⟨rfl,?_⟩
   split at h
   ·simp at h
   ·omega
theorem linEr_zero {L:List Lin} {x:Lin} (h:linEr L x=0):G.findK Lin.key L x.key=none∧L.length < 1000:=by
 unfold linEr at h
 cases hf:G.findK Lin.key L x.key with
 | some y=>rw [hf] at h;simp at h
 | none =>
   rw [hf] at h
   simp only [Option.isSome_none,Bool.false_eq_true,if_false] at h
   refine ⟨rfl,?_⟩
   split at h
   ·simp at h
   ·omega
theorem oneE_zero {x:ByteArray} (h:oneE x=0):x=emp:=by
 unfold oneE at h
 split at h
 ·assumption
 ·simp at h
theorem step_ways {M:Mast} {ws:List ByteArray} (h:stepE M ws=0) :
 (wd ws 0=tAccount∧(parseA ws).2=0∧addE M.chart (parseA ws).1=0∧stepV M ws={ M with chart:=insL M.chart (parseA ws).1 }) ∨
 (wd ws 0=Fl.tFlow∧(Fl.parseF ws).2=0∧Fl.addE M.flows (Fl.parseF ws).1=0∧stepV M ws={ M with flows:=insK Fl.Flow.code M.flows (Fl.parseF ws).1 }) ∨
 (formedW ws=true∧wd ws 0=tEntity∧entE M.ents (entOf ws)=0∧stepV M ws={ M with ents:=G.insK Ent.code M.ents (entOf ws) }) ∨
 (formedW ws=true∧wd ws 0=tMap∧linEr M.lines (linOf ws)=0∧stepV M ws={ M with lines:=G.insK Lin.key M.lines (linOf ws) }) ∨
 (formedW ws=true∧wd ws 0=tGroup∧M.cur=emp∧stepV M ws={ M with cur:=wd ws 1 }) ∨
 (formedW ws=true∧wd ws 0=tReserve∧M.res=emp∧stepV M ws={ M with res:=wd ws 1 }) ∨
 (formedW ws=true∧wd ws 0=tDiffer∧M.dif=emp∧stepV M ws={ M with dif:=wd ws 1 }) ∨
 (formedW ws=true∧wd ws 0=tMinor∧M.min=emp∧stepV M ws={ M with min:=wd ws 1 }) ∨
 (formedW ws=true∧wd ws 0=tStake∧M.stk=emp∧stepV M ws={ M with stk:=wd ws 1 }):=by
 unfold stepE at h
 unfold stepV
 by_cases h1:wd ws 0=tAccount
 ·rw [if_pos h1] at h ⊢
  by_cases hp:(parseA ws).2=0
  ·rw [if_pos hp] at h;exact .inl ⟨h1,hp,h,rfl⟩
  ·rw [if_neg hp] at h;exact absurd h hp
 rw [if_neg h1] at h ⊢
 by_cases h2:wd ws 0=Fl.tFlow
 ·rw [if_pos h2] at h ⊢
  by_cases hp:(Fl.parseF ws).2=0
  ·rw [if_pos hp] at h;exact .inr (.inl ⟨h2,hp,h,rfl⟩)
  ·rw [if_neg hp] at h;exact absurd h hp
 rw [if_neg h2] at h ⊢
 cases hf:formedW ws with
 | false=>rw [if_pos hf] at h;simp at h
 | true =>
   rw [if_neg (by rw [hf];simp)] at h
   by_cases h3:wd ws 0=tEntity
   ·rw [if_pos h3] at h ⊢;exact .inr (.inr (.inl ⟨rfl,h3,h,rfl⟩))
   rw [if_neg h3] at h ⊢
   by_cases h4:wd ws 0=tMap
   ·rw [if_pos h4] at h ⊢;exact .inr (.inr (.inr (.inl ⟨rfl,h4,h,rfl⟩)))
   rw [if_neg h4] at h ⊢
   by_cases h5:wd ws 0=tGroup
   ·rw [if_pos h5] at h ⊢;exact .inr (.inr (.inr (.inr (.inl ⟨rfl,h5,oneE_zero h,rfl⟩))))
   rw [if_neg h5] at h ⊢
   by_cases h6:wd ws 0=tReserve
   ·rw [if_pos h6] at h ⊢;exact .inr (.inr (.inr (.inr (.inr (.inl ⟨rfl,h6,oneE_zero h,rfl⟩)))))
   rw [if_neg h6] at h ⊢
   by_cases h7:wd ws 0=tDiffer
   ·rw [if_pos h7] at h ⊢;exact .inr (.inr (.inr (.inr (.inr (.inr (.inl ⟨rfl,h7,oneE_zero h,rfl⟩))))))
   rw [if_neg h7] at h ⊢
   by_cases h8:wd ws 0=tMinor
   ·rw [if_pos h8] at h ⊢;exact .inr (.inr (.inr (.inr (.inr (.inr (.inr (.inl ⟨rfl,h8,oneE_zero h,rfl⟩)))))))
   rw [if_neg h8] at h ⊢
   refine .inr (.inr (.inr (.inr (.inr (.inr (.inr (.inr ⟨rfl,?_,oneE_zero h,rfl⟩)))))))
   unfold formedW at hf
   rw [Bool.and_eq_true,Bool.and_eq_true,decide_eq_true_eq,decide_eq_true_eq] at hf
   have hl:=hf.2.1
   unfold lenW at hl
   by_cases h9:wd ws 0=tStake
   ·exact h9
   ·rw [if_neg (by simp [h5,h6,h7,h8,h9]),if_neg h3,if_neg h4] at hl
    have:=hf.1
    omega
theorem Sane.step {M:Mast} {ws:List ByteArray} (hs:Sane M) (h:stepE M ws=0):Sane (stepV M ws):=by
 rcases step_ways h with ⟨_,_,ha,e⟩ | ⟨_,_,ha,e⟩ | ⟨_,_,ha,e⟩ | ⟨_,_,ha,e⟩ | ⟨_,_,_,e⟩ | ⟨_,_,_,e⟩ | ⟨_,_,_,e⟩ | ⟨_,_,_,e⟩ | ⟨_,_,_,e⟩ <;> rw [e]
 ·obtain ⟨_,h2,h3⟩:=addE_zero ha
  exact ⟨rise_ins _ _ hs.ch h2,hs.fl,hs.en,hs.li,by show (insL _ _).length≤60;rw [insL_length];omega,hs.lf,hs.le,hs.ll⟩
 ·obtain ⟨_,_,_,h3⟩:=Fl.addE_zero (Fl.rise_codes hs.fl) ha
  exact ⟨hs.ch,Fl.rise_ins hs.fl ha,hs.en,hs.li,hs.lc,by show (insK _ _ _).length≤60;rw [insK_length];omega,hs.le,hs.ll⟩
 ·obtain ⟨h2,h3⟩:=entE_zero ha
  exact ⟨hs.ch,hs.fl,G.riseK_ins _ _ hs.en h2,hs.li,hs.lc,hs.lf,by show (G.insK _ _ _).length≤60;rw [G.insK_length];omega,hs.ll⟩
 ·obtain ⟨h2,h3⟩:=linEr_zero ha
  exact ⟨hs.ch,hs.fl,hs.en,G.riseK_ins _ _ hs.li h2,hs.lc,hs.lf,hs.le,by show (G.insK _ _ _).length≤1000;rw [G.insK_length];omega⟩
 all_goals exact ⟨hs.ch,hs.fl,hs.en,hs.li,hs.lc,hs.lf,hs.le,hs.ll⟩
def keyIn (M:Mast) (a b c:ByteArray):Bool :=
 if a=tEntity then (G.findK Ent.code M.ents b).isSome
 else if a=tMap then (G.findK Lin.key M.lines (b,c)).isSome
 else if a=tGroup then decide (M.cur≠emp)
 else if a=tReserve then decide (M.res≠emp)
 else if a=tDiffer then decide (M.dif≠emp)
 else if a=tMinor then decide (M.min≠emp)
 else decide (M.stk≠emp)
def keyB (ws:List ByteArray):ByteArray:=if wd ws 0=tEntity then wd ws 1 else if wd ws 0=tMap then wd ws 1 else emp
def keyC (ws:List ByteArray):ByteArray:=if wd ws 0=tEntity then emp else if wd ws 0=tMap then wd ws 2 else emp
def hadW (M:Mast) (ws:List ByteArray):Bool:=keyIn M (wd ws 0) (keyB ws) (keyC ws)
def keepE (M:Mast) (ws:List ByteArray):Int :=
 if wd ws 0=tEntity then (if 60≤M.ents.length then 4 else 0) else if wd ws 0=tMap then (if 1000≤M.lines.length then 4 else 0) else 0
theorem oneE_eq (x:ByteArray):oneE x=if decide (x≠emp)=true then 7 else 0:=by
 unfold oneE
 by_cases h:x=emp <;> simp [h]
theorem step_formed {M:Mast} {ws:List ByteArray} (h1:wd ws 0≠tAccount) (h2:wd ws 0≠Fl.tFlow) (h3:formedW ws=true):stepE M ws=if hadW M ws=true then 7 else keepE M ws:=by
 unfold stepE hadW keyIn keepE
 rw [if_neg h1,if_neg h2,if_neg (by rw [h3];simp)]
 have t1:tMap≠tEntity:=by decide
 by_cases h4:wd ws 0=tEntity
 ·simp only [if_pos h4]
  unfold entE
  have:keyB ws=(entOf ws).code:=by unfold keyB;rw [if_pos h4];rfl
  rw [this]
 simp only [if_neg h4]
 by_cases h5:wd ws 0=tMap
 ·simp only [if_pos h5]
  unfold linEr
  have:(keyB ws,keyC ws)=(linOf ws).key:=by unfold keyB keyC;rw [if_neg h4,if_pos h5,if_neg h4,if_pos h5];rfl
  rw [this]
 simp only [if_neg h5]
 by_cases h6:wd ws 0=tGroup
 ·simp only [if_pos h6];exact oneE_eq _
 simp only [if_neg h6]
 by_cases h7:wd ws 0=tReserve
 ·simp only [if_pos h7];exact oneE_eq _
 simp only [if_neg h7]
 by_cases h8:wd ws 0=tDiffer
 ·simp only [if_pos h8];exact oneE_eq _
 simp only [if_neg h8]
 by_cases h9:wd ws 0=tMinor
 ·simp only [if_pos h9];exact oneE_eq _
 simp only [if_neg h9];exact oneE_eq _
end Go.Proofs.YtfhhihamndbcnaaGreatDoor.Un
end
section
namespace Go.Proofs.YtfhhihamndbcnaaGreatDoor
open Go.RowKit
theorem info_theirs_any:(Tryz.prog.info? 199).map (fun i=>(i.zero,i.size,i.bytes))=some (some (.agg #[.string ⟨#[]⟩,.int .i64 0,.bool false,.bool false,.string ⟨#[]⟩,.bool false]),6,56):=by kernel_rfl
end Go.Proofs.YtfhhihamndbcnaaGreatDoor
end
section
namespace Go.Proofs.YtfhhihamndbcnaaGreatDoor
open Go.RowKit
def RowTold (w:World) (L:List Acct) (e:Ending) (w':World):Prop:=∃ v,e=.returned v∧w'.ownsRow w.heap.size 199 6 v L.length (flatA L)∧Below w.heap.size w w'
set_option maxRecDepth 100000 in
set_option maxHeartbeats 2000000 in
theorem clone_any (v:Value) (L:List Acct) (w:World) (h:ChartV w v L) (hL:L.length≤1000) :
 Calls Tryz.prog 144 #[v] w (RowTold w L):=by
 have HV:=Lib.hid h
 obtain ⟨p,c,rfl,hcap,hm,hp,hc⟩:=h
 have hq:∀ (w:World) (a:Option Addr) (n c n' c':Nat),(binOp .eql 25 (.slice a n c) (.slice none n' c')).run Tryz.prog w=.ok (.bool a.isNone) w:=fun w a n c n' c'=>Lib.run_eql_slice_nil w _ _ a n c n' c' Tryz.underlying25
 obtain ⟨i0,hi,hz0,hz1,hz2⟩:=info_parts info_theirs_any
 have HI:=Lib.hid (And.intro hi (And.intro hz0 (And.intro hz1 hz2)))
 clear hi hz0 hz1 hz2 hc
 unfold maxLen at hm
 cases p with
 | none =>
   have h0:=hp rfl
   have:L=[]:=List.eq_nil_of_length_eq_zero (by omega)
   subst this
   clear HV hp
   go_enter Tryz.func144,Tryz.ntmps144
   go_wp2
   go_ret
   exact ⟨_,rfl,World.ownsRow_nil _ _ _ _,Below.refl _ _⟩
 | some ad =>
   have HC:Hid (∀ (j:Nat) u,(flatA L)[j]?=some u→w.cell? (ad.add j)=some u):=Lib.hid (fun j u hj=>by
    by_cases hne:L=[]
    ·subst hne;simp [flatA] at hj
    ·obtain ⟨b,o,e,_,hcell⟩:=HV.out.cells hne
     cases e
     rw [add_off];exact hcell j u hj)
   obtain ⟨n,hn⟩:∃ n,L.length=n:=⟨_,rfl⟩
   have HN:=Lib.hid hn
   rw [hn] at hcap hL ⊢
   clear hn hp HV
   go_enter Tryz.func144,Tryz.ntmps144
   go_wp2_with (at_builtin;refine wpList_append_own _ rfl _ _ 25 rfl w.heap.size 199 i0 (.agg #[.string ⟨#[]⟩,.int .i64 0,.bool false,.bool false,.string ⟨#[]⟩,.bool false]) 6 56 Tryz.underlying25 HI.out.1 HI.out.2.1 HI.out.2.2.1 HI.out.2.2.2 rfl (by decide) _ _ _ rfl (World.ownsRow_made w #[] 0 (Nat.le_refl _) (Nat.zero_le _) (by simp)) ad n c (flatA L) rfl ?qc1 ?qc2 ?qc3 ?qc4 ?qc5 ?qc6 ?_)
   case qc1=>rw [flatA_length,HN.out]
   case qc2=>exact fun j u hj=>Lib.cell?_alloc_some _ (HC.out j u hj)
   case qc3=>exact flatA_one L
   case qc4=>rw [Nat.zero_add];unfold maxLen;omega
   case qc5=>rw [Nat.zero_add];omega
   case qc6=>simp
   intro v' w1 hown hgrow hnil
   have HOW:Hid (w1.ownsRow w.heap.size 199 6 v' L.length (flatA L)):=Lib.hid (by rw [HN.out];simpa using hown)
   have HBL:=Lib.hid (((Below.refl _ w).alloc (Nat.le_refl _) (.cells #[] 199)).grown hgrow (by simp) (by intro k hk;simp [Value.ownBlock] at hk;omega))
   clear hown hgrow hnil
   go_wp2
   go_ret
   exact ⟨v',rfl,HOW.out,HBL.out⟩
end Go.Proofs.YtfhhihamndbcnaaGreatDoor
end
