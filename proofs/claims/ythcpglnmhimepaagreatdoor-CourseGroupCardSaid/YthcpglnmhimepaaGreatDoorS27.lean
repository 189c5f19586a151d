/- UnitRun PkPlain CsPlain CsMem CsFind RateDoc -/
import Derived.WalkLawsBesides
import Derived.Test.YthcpglnmhimepaaGreatDoorS10
import Derived.Test.YthcpglnmhimepaaGreatDoorS17
section
namespace Go.Proofs.YthcpglnmhimepaaGreatDoor.Un
open Go.RowKit
def acO (ws:List ByteArray):Option Acct:=if wd ws 0=tAccount∧(parseA ws).2=0 then some (parseA ws).1 else none
def flO (ws:List ByteArray):Option Fl.Flow:=if wd ws 0=Fl.tFlow∧(Fl.parseF ws).2=0 then some (Fl.parseF ws).1 else none
def enO (ws:List ByteArray):Option Ent:=if wd ws 0=tEntity∧formedW ws=true then some (entOf ws) else none
def liO (ws:List ByteArray):Option Lin:=if wd ws 0=tMap∧formedW ws=true then some (linOf ws) else none
def onO (t:ByteArray) (ws:List ByteArray):Option ByteArray:=if wd ws 0=t∧formedW ws=true then some (wd ws 1) else none
theorem acO_no {ws:List ByteArray} (h:wd ws 0≠tAccount):acO ws=none:=by unfold acO;rw [if_neg (fun e=>h e.1)]
theorem flO_no {ws:List ByteArray} (h:wd ws 0≠Fl.tFlow):flO ws=none:=by unfold flO;rw [if_neg (fun e=>h e.1)]
theorem enO_no {ws:List ByteArray} (h:wd ws 0≠tEntity):enO ws=none:=by unfold enO;rw [if_neg (fun e=>h e.1)]
theorem liO_no {ws:List ByteArray} (h:wd ws 0≠tMap):liO ws=none:=by unfold liO;rw [if_neg (fun e=>h e.1)]
theorem onO_no {t:ByteArray} {ws:List ByteArray} (h:wd ws 0≠t):onO t ws=none:=by unfold onO;rw [if_neg (fun e=>h e.1)]
theorem acO_yes {ws:List ByteArray} (h:wd ws 0=tAccount) (hp:(parseA ws).2=0):acO ws=some (parseA ws).1:=by unfold acO;rw [if_pos ⟨h,hp⟩]
theorem flO_yes {ws:List ByteArray} (h:wd ws 0=Fl.tFlow) (hp:(Fl.parseF ws).2=0):flO ws=some (Fl.parseF ws).1:=by unfold flO;rw [if_pos ⟨h,hp⟩]
theorem enO_yes {ws:List ByteArray} (h:wd ws 0=tEntity) (hp:formedW ws=true):enO ws=some (entOf ws):=by unfold enO;rw [if_pos ⟨h,hp⟩]
theorem liO_yes {ws:List ByteArray} (h:wd ws 0=tMap) (hp:formedW ws=true):liO ws=some (linOf ws):=by unfold liO;rw [if_pos ⟨h,hp⟩]
theorem onO_yes {t:ByteArray} {ws:List ByteArray} (h:wd ws 0=t) (hp:formedW ws=true):onO t ws=some (wd ws 1):=by unfold onO;rw [if_pos ⟨h,hp⟩]
def Good (ws:List ByteArray):Prop:=(wd ws 0=tAccount∧(parseA ws).2=0)∨(wd ws 0=Fl.tFlow∧(Fl.parseF ws).2=0)∨formedW ws=true
def oneL (x:ByteArray):List ByteArray:=if x=emp then [] else [x]
theorem oneL_no:oneL emp=[]:=by simp [oneL]
theorem oneL_yes {x:ByteArray} (h:x≠emp):oneL x=[x]:=by simp [oneL,h]
structure Inv (l:List (List ByteArray)) (M:Mast):Prop where
 chart:M.chart.Perm (l.filterMap acO)
 flows:M.flows.Perm (l.filterMap flO)
 ents:M.ents.Perm (l.filterMap enO)
 lines:M.lines.Perm (l.filterMap liO)
 cur:l.filterMap (onO tGroup)=oneL M.cur
 res:l.filterMap (onO tReserve)=oneL M.res
 dif:l.filterMap (onO tDiffer)=oneL M.dif
 min:l.filterMap (onO tMinor)=oneL M.min
 stk:l.filterMap (onO tStake)=oneL M.stk
 sane:Sane M
 good:∀ ws∈l,Good ws
theorem Inv.zero:Inv [] zeroM:=⟨.refl _,.refl _,.refl _,.refl _,rfl,rfl,rfl,rfl,rfl,Sane.zero,fun _ h=>by cases h⟩
theorem fm_no {α:Type} {f:List ByteArray→Option α} {l:List (List ByteArray)} {ws:List ByteArray} (h:f ws=none):(l++[ws]).filterMap f=l.filterMap f:=by simp [List.filterMap_append,h]
theorem fm_yes {α:Type} {f:List ByteArray→Option α} {l:List (List ByteArray)} {ws:List ByteArray} {x:α} (h:f ws=some x):(l++[ws]).filterMap f=l.filterMap f++[x]:=by simp [List.filterMap_append,h]
theorem perm_snoc {α:Type} {A B:List α} {x:α} {C:List α} (h:A.Perm B) (hc:C.Perm (x::A)):C.Perm (B++[x]) :=
 hc.trans ((List.Perm.cons x h).trans (List.perm_append_singleton x B).symm)
theorem insL_perm (L:List Acct) (x:Acct):(insL L x).Perm (x::L):=by
 rw [insL_eq]
 exact List.perm_middle.trans (by rw [List.take_append_drop])
theorem insK_perm (L:List Fl.Flow) (x:Fl.Flow):(insK Fl.Flow.code L x).Perm (x::L):=by
 unfold insK
 exact List.perm_middle.trans (by rw [List.take_append_drop])
theorem formed_one {ws:List ByteArray} (hf:formedW ws=true) (h:wd ws 0≠tEntity) (h':wd ws 0≠tMap):wd ws 1≠emp:=by
 rcases formed_ways hf with ⟨h0,_⟩ | ⟨h0,_⟩ | ⟨_,a,h1,ha⟩
 ·exact absurd h0 h
 ·exact absurd h0 h'
 ·rw [h1];exact nm_ne ha
theorem Inv.step {l:List (List ByteArray)} {M:Mast} {ws:List ByteArray} (h:Inv l M) (hs:stepE M ws=0):Inv (l++[ws]) (stepV M ws):=by
 have hsn:=h.sane.step hs
 have hgd:Good ws→∀ us∈l++[ws],Good us:=fun hg us hu=>by
  rcases List.mem_append.1 hu with hu | hu
  ·exact h.good us hu
  ·simp at hu;subst hu;exact hg
 rcases step_ways hs with ⟨w0,hp,ha,e⟩ | ⟨w0,hp,ha,e⟩ | ⟨hf,w0,ha,e⟩ | ⟨hf,w0,ha,e⟩ | ⟨hf,w0,ha,e⟩ | ⟨hf,w0,ha,e⟩ | ⟨hf,w0,ha,e⟩ | ⟨hf,w0,ha,e⟩ | ⟨hf,w0,ha,e⟩
 ·rw [e] at hsn ⊢
  exact ⟨by rw [fm_yes (acO_yes w0 hp)];exact perm_snoc h.chart (insL_perm _ _),by rw [fm_no (flO_no (by rw [w0];decide))];exact h.flows,by rw [fm_no (enO_no (by rw [w0];decide))];exact h.ents,by rw [fm_no (liO_no (by rw [w0];decide))];exact h.lines,by rw [fm_no (onO_no (by rw [w0];decide))];exact h.cur,by rw [fm_no (onO_no (by rw [w0];decide))];exact h.res,by rw [fm_no (onO_no (by rw [w0];decide))];exact h.dif,by rw [fm_no (onO_no (by rw [w0];decide))];exact h.min,by rw [fm_no (onO_no (by rw [w0];decide))];exact h.stk,hsn,hgd (.inl ⟨w0,hp⟩)⟩
 ·rw [e] at hsn ⊢
  exact ⟨by rw [fm_no (acO_no (by rw [w0];decide))];exact h.chart,by rw [fm_yes (flO_yes w0 hp)];exact perm_snoc h.flows (insK_perm _ _),by rw [fm_no (enO_no (by rw [w0];decide))];exact h.ents,by rw [fm_no (liO_no (by rw [w0];decide))];exact h.lines,by rw [fm_no (onO_no (by rw [w0];decide))];exact h.cur,by rw [fm_no (onO_no (by rw [w0];decide))];exact h.res,by rw [fm_no (onO_no (by rw [w0];decide))];exact h.dif,by rw [fm_no (onO_no (by rw [w0];decide))];exact h.min,by rw [fm_no (onO_no (by rw [w0];decide))];exact h.stk,hsn,hgd (.inr (.inl ⟨w0,hp⟩))⟩
 ·rw [e] at hsn ⊢
  exact ⟨by rw [fm_no (acO_no (by rw [w0];decide))];exact h.chart,by rw [fm_no (flO_no (by rw [w0];decide))];exact h.flows,by rw [fm_yes (enO_yes w0 hf)];exact perm_snoc h.ents (G.ins_perm _ _),by rw [fm_no (liO_no (by rw [w0];decide))];exact h.lines,by rw [fm_no (onO_no (by rw [w0];decide))];exact h.cur,by rw [fm_no (onO_no (by rw [w0];decide))];exact h.res,by rw [fm_no (onO_no (by rw [w0];decide))];exact h.dif,by rw [fm_no (onO_no (by rw [w0];decide))];exact h.min,by rw [fm_no (onO_no (by rw [w0];decide))];exact h.stk,hsn,hgd (.inr (.inr hf))⟩
 ·rw [e] at hsn ⊢
  exact ⟨by rw [fm_no (acO_no (by rw [w0];decide))];exact h.chart,by rw [fm_no (flO_no (by rw [w0];decide))];exact h.flows,by rw [fm_no (enO_no (by rw [w0];decide))];exact h.ents,by rw [fm_yes (liO_yes w0 hf)];exact perm_snoc h.lines (G.ins_perm _ _),by rw [fm_no (onO_no (by rw [w0];decide))];exact h.cur,by rw [fm_no (onO_no (by rw [w0];decide))];exact h.res,by rw [fm_no (onO_no (by rw [w0];decide))];exact h.dif,by rw [fm_no (onO_no (by rw [w0];decide))];exact h.min,by rw [fm_no (onO_no (by rw [w0];decide))];exact h.stk,hsn,hgd (.inr (.inr hf))⟩
 all_goals
  have hne:=formed_one hf (by rw [w0];decide) (by rw [w0];decide)
  rw [e] at hsn ⊢
  refine ⟨by rw [fm_no (acO_no (by rw [w0];decide))];exact h.chart,by rw [fm_no (flO_no (by rw [w0];decide))];exact h.flows,by rw [fm_no (enO_no (by rw [w0];decide))];exact h.ents,by rw [fm_no (liO_no (by rw [w0];decide))];exact h.lines,?_,?_,?_,?_,?_,hsn,hgd (.inr (.inr hf))⟩
  all_goals first
   | (rw [fm_no (onO_no (by rw [w0];decide))];first | exact h.cur | exact h.res | exact h.dif | exact h.min | exact h.stk)
   | (rw [fm_yes (onO_yes w0 hf)];first | rw [h.cur] | rw [h.res] | rw [h.dif] | rw [h.min] | rw [h.stk]
      rw [ha,oneL_no]
      exact (oneL_yes hne).symm)
theorem Inv.run {l k:List (List ByteArray)} {M N:Mast} (h:Inv l M) (hr:runM M k=(N,0)):Inv (l++k) N:=by
 induction k generalizing l M with
 | nil =>
   simp only [runM,Prod.mk.injEq] at hr
   rw [List.append_nil,←hr.1];exact h
 | cons ws k ih =>
   by_cases hs:stepE M ws=0
   ·rw [runM_cons _ _ _ hs] at hr
    have:=ih (h.step hs) hr
    simpa using this
   ·rw [runM_stop _ _ _ hs] at hr
    simp only [Prod.mk.injEq] at hr
    exact absurd hr.2 hs
theorem run_zero_of {l:List (List ByteArray)} {M:Mast} (h:runM zeroM l=(M,0)):Inv l M:=by
 simpa using Inv.zero.run h
end Go.Proofs.YthcpglnmhimepaaGreatDoor.Un
end
section
namespace Go.Proofs.YthcpglnmhimepaaGreatDoor.Pk
open Go.RowKit Go.Proofs.YthcpglnmhimepaaGreatDoor.Un Go.Proofs.YthcpglnmhimepaaGreatDoor.Fa
def tPackage:ByteArray:=⟨#[112,97,99,107,97,103,101]⟩
def tJournal:ByteArray:=⟨#[106,111,117,114,110,97,108]⟩
def tFact:ByteArray:=⟨#[102,97,99,116]⟩
def tDash:ByteArray:=⟨#[45]⟩
def hasE (M:Mast) (c:ByteArray):Bool:=(G.findK Ent.code M.ents c).isSome
def hasFl (M:Mast) (c:ByteArray):Bool:=(Fl.findF M.flows c).isSome
def mutA (M:Mast) (c:ByteArray):Bool:=((findL M.chart c).getD zeroA).both
def kindF (M:Mast) (c:ByteArray):Int:=((Fl.findF M.flows c).getD Fl.zeroF).kind
def isP (k:Key):Bool:=decide (k.p≠emp)
def inM (M:Mast) (k:Key):Bool:=hasE M k.e && hasA M.chart k.a && hasFl M k.f && (!isP k || hasE M k.p)
def checkE (M:Mast) (k:Key):Int :=
 if inM M k=false then 6
 else if (isP k && decide (k.p=k.e))=true then 1
 else if isP k≠mutA M k.a then 15
 else if kindF M k.f=2 then 8 else 0
structure St where
 ent:ByteArray
 mrk:Int
 had:List ByteArray
 facts:List Fact
def begE (M:Mast) (c:ByteArray):Int:=if nmB c=false then 5 else if hasE M c=false then 6 else 0
def parB (x:ByteArray):ByteArray:=if x=tDash then emp else x
def keyF (S:St) (ws:List ByteArray):Key:=⟨S.ent,wd ws 1,wd ws 2,parB (wd ws 3),S.mrk⟩
def namedK (k:Key):Bool:=nmB k.a && nmB k.f && (!isP k || nmB k.p)
def factE (M:Mast) (S:St) (ws:List ByteArray):Int :=
 if (decide (S.ent=emp) || !namedK (keyF S ws))=true then 5
 else if parseE (wd ws 4).data.toList=0 then checkE M (keyF S ws) else parseE (wd ws 4).data.toList
def hadB (l:List ByteArray) (c:ByteArray):Bool:=l.any fun x=>decide (x=c)
def lineE (M:Mast) (S:St) (ws:List ByteArray):Int :=
 if wd ws 0=tPackage then (if ws.length=2 then (if begE M (wd ws 1)=0 then (if hadB S.had (wd ws 1)=true then 7 else 0) else begE M (wd ws 1)) else 5)
 else if wd ws 0=tJournal then (if ws.length=2 then begE M (wd ws 1) else 5)
 else if wd ws 0=tFact then (if ws.length=5 then factE M S ws else 5)
 else 5
end Go.Proofs.YthcpglnmhimepaaGreatDoor.Pk
end
section
namespace Go.Proofs.YthcpglnmhimepaaGreatDoor.Cs
open Go.RowKit Go.Proofs.YthcpglnmhimepaaGreatDoor.Un Go.Proofs.YthcpglnmhimepaaGreatDoor.Pk
def ltT (x y:ByteArray × ByteArray × ByteArray):Bool:=ltS x.1 y.1 || (decide (x.1=y.1) && G.ltP x.2 y.2)
theorem ltT_iff (x y:ByteArray × ByteArray × ByteArray):ltT x y=true ↔ ltS x.1 y.1=true∨(x.1=y.1∧G.ltP x.2 y.2=true):=by simp [ltT]
instance triO:G.KeyO (ByteArray × ByteArray × ByteArray) where
 lt:=ltT
 trans:=by
  intro x y z h1 h2
  rw [ltT_iff] at *
  rcases h1 with h1 | ⟨e1,h1⟩ <;> rcases h2 with h2 | ⟨e2,h2⟩
  ·exact .inl (ltS_trans h1 h2)
  ·exact .inl (by rw [←e2];exact h1)
  ·exact .inl (by rw [e1];exact h2)
  ·exact .inr ⟨e1.trans e2,G.KeyO.trans (κ:=ByteArray × ByteArray) h1 h2⟩
 irr:=by
  intro x
  have h:G.ltP x.2 x.2=false:=G.KeyO.irr (κ:=ByteArray × ByteArray) x.2
  simp [ltT,ltS_irr,h]
 total:=by
  intro x y h hne
  rw [ltT_iff]
  simp only [ltT,Bool.or_eq_false_iff,Bool.and_eq_false_iff,decide_eq_false_iff_not] at h
  by_cases e:x.1=y.1
  ·refine .inr ⟨e.symm,G.KeyO.total (κ:=ByteArray × ByteArray) ?_ (fun e2=>hne (Prod.ext e e2))⟩
   rcases h.2 with h2 | h2
   ·exact absurd e h2
   ·exact h2
  ·exact .inl (ltS_total h.1 e)
def tPrior:ByteArray:=⟨#[112,114,105,111,114]⟩
def tAverage:ByteArray:=⟨#[97,118,101,114,97,103,101]⟩
def tClose:ByteArray:=⟨#[99,108,111,115,101]⟩
def tFlow:ByteArray:=⟨#[102,108,111,119]⟩
structure Crs where
 sort:ByteArray
 flw:ByteArray
 cur:ByteArray
 num:Int
 den:Int
abbrev Crs.key (x:Crs):ByteArray × ByteArray × ByteArray:=(x.sort,x.flw,x.cur)
def simB (t:ByteArray):Bool:=decide (t=tPrior) || decide (t=tAverage) || decide (t=tClose)
def formC (ws:List ByteArray):Bool:=(decide (ws.length=3) && simB (wd ws 0) && nmB (wd ws 1)) || (decide (ws.length=4) && decide (wd ws 0=tFlow) && nmB (wd ws 1) && nmB (wd ws 2))
def rateW (ws:List ByteArray):List UInt8:=(wd ws (ws.length - 1)).data.toList
def readE (ws:List ByteArray):Int:=if formC ws=true then prsE (rateW ws) else 5
def readV (ws:List ByteArray):Crs:=⟨wd ws 0,if wd ws 0=tFlow then wd ws 1 else emp,wd ws (ws.length - 2),prsN (rateW ws),prsD (rateW ws)⟩
def flowE (M:Mast) (x:Crs):Int:=if x.sort=tFlow then (if hasFl M x.flw=false then 6 else if kindF M x.flw=1∨kindF M x.flw=3 then 0 else 8) else 0
def tabE (L:List Crs) (x:Crs):Int:=if (G.findK Crs.key L x.key).isSome=true then 7 else if 500≤L.length then 4 else 0
def rightE (M:Mast) (L:List Crs) (x:Crs):Int:=if flowE M x≠0 then flowE M x else if x.cur=M.cur then 1 else tabE L x
def stepE (M:Mast) (L:List Crs) (ws:List ByteArray):Int:=if readE ws=0 then rightE M L (readV ws) else readE ws
def runC (M:Mast):List Crs→List (List ByteArray)→List Crs × Int
 | L,[]=>(L,0)
 | L,ws::r=>if stepE M L ws=0 then runC M (G.insK Crs.key L (readV ws)) r else ([],stepE M L ws)
def parseC (M:Mast) (s:ByteArray):List Crs × Int:=if linE s.data.toList=0 then runC M [] (wordsT s) else ([],linE s.data.toList)
def sortK (k:Int):ByteArray:=if k=0 then tPrior else if k=4 then tClose else tAverage
def rateO (L:List Crs) (k:ByteArray × ByteArray × ByteArray):Option (Int × Int):=(G.findK Crs.key L k).map fun x=>(x.num,x.den)
def ofC (M:Mast) (L:List Crs) (c f:ByteArray):(Int × Int) × Int :=
 if hasFl M f=false then ((0,0),6)
 else if kindF M f=2 then ((0,0),8)
 else if c=M.cur then ((1,1),0)
 else match rateO L (tFlow,f,c) with
  | some r=>(r,0)
  | none=>match rateO L (sortK (kindF M f),emp,c) with
    | some r=>(r,0)
    | none=>((0,0),10)
def wordsX (x:Crs):List ByteArray:=if x.sort=tFlow then [x.sort,x.flw,x.cur,mkB (prt x.num x.den)] else [x.sort,x.cur,mkB (prt x.num x.den)]
def printC (L:List Crs):ByteArray:=mkB (textW (L.map wordsX))
theorem runC_cons {M:Mast} {L:List Crs} {ws:List ByteArray} (r:List (List ByteArray)) (h:stepE M L ws=0):runC M L (ws::r)=runC M (G.insK Crs.key L (readV ws)) r:=by rw [runC,if_pos h]
theorem runC_stop {M:Mast} {L:List Crs} {ws:List ByteArray} (r:List (List ByteArray)) (h:stepE M L ws≠0):runC M L (ws::r)=([],stepE M L ws):=by rw [runC,if_neg h]
structure LineOk (M:Mast) (ws:List ByteArray):Prop where
 form:formC ws=true
 rate:prsE (rateW ws)=0
 flow:flowE M (readV ws)=0
 cur:(readV ws).cur≠M.cur
theorem tabE_zero {L:List Crs} {x:Crs}:tabE L x=0 ↔ G.findK Crs.key L x.key=none∧L.length < 500:=by
 unfold tabE
 cases h:G.findK Crs.key L x.key with
 | some y=>simp
 | none =>
   rw [if_neg (by simp)]
   by_cases h5:500≤L.length
   ·rw [if_pos h5];simp;omega
   ·rw [if_neg h5];simp;omega
theorem step_zero {M:Mast} {L:List Crs} {ws:List ByteArray}:stepE M L ws=0 ↔ LineOk M ws∧G.findK Crs.key L (readV ws).key=none∧L.length < 500:=by
 rw [←tabE_zero]
 unfold stepE readE rightE
 constructor
 ·intro h
  by_cases hf:formC ws=true
  ·rw [if_pos hf] at h
   by_cases hr:prsE (rateW ws)=0
   ·rw [if_pos hr] at h
    by_cases h1:flowE M (readV ws)=0
    ·rw [if_neg (by rw [h1];simp)] at h
     by_cases h2:(readV ws).cur=M.cur
     ·rw [if_pos h2] at h;cases h
     ·rw [if_neg h2] at h;exact ⟨⟨hf,hr,h1,h2⟩,h⟩
    ·rw [if_pos h1] at h;exact absurd h h1
   ·rw [if_neg hr] at h;exact absurd h hr
  ·rw [if_neg hf] at h;simp at h
 ·rintro ⟨⟨hf,hr,h1,h2⟩,h⟩
  rw [if_pos hf,if_pos hr,if_neg (by rw [h1];simp),if_neg h2]
  exact h
structure Inv (M:Mast) (l:List (List ByteArray)) (L:List Crs):Prop where
 perm:L.Perm (l.map readV)
 rise:G.riseK Crs.key L=true
 good:∀ ws∈l,LineOk M ws
 len:L.length≤500
theorem Inv.zero (M:Mast):Inv M [] []:=⟨.refl _,rfl,fun _ h=>(by cases h),by simp⟩
theorem Inv.step {M:Mast} {l:List (List ByteArray)} {L:List Crs} {ws:List ByteArray} (h:Inv M l L) (hs:stepE M L ws=0):Inv M (l++[ws]) (G.insK Crs.key L (readV ws)):=by
 obtain ⟨h1,h2,h3⟩:=step_zero.1 hs
 refine ⟨?_,G.riseK_ins _ _ h.rise h2,?_,?_⟩
 ·refine (G.ins_perm L (readV ws)).trans ?_
  rw [List.map_append,List.map_singleton]
  exact (List.Perm.cons _ h.perm).trans (List.perm_append_singleton _ _).symm
 ·intro x hx
  rcases List.mem_append.1 hx with hx | hx
  ·exact h.good x hx
  ·rw [List.mem_singleton.1 hx];exact h1
 ·rw [G.insK_length];omega
theorem Inv.run {M:Mast}:∀ (k:List (List ByteArray)) {l:List (List ByteArray)} {L N:List Crs},Inv M l L→runC M L k=(N,0)→Inv M (l++k) N
 | [],l,L,N,h,hr=>by
   have e:L=N:=congrArg Prod.fst hr
   subst e
   simpa using h
 | ws::k,l,L,N,h,hr=>by
   by_cases hs:stepE M L ws=0
   ·rw [runC_cons _ hs] at hr
    have:=Inv.run k (h.step hs) hr
    simpa using this
   ·rw [runC_stop _ hs] at hr
    exact absurd (congrArg Prod.snd hr) hs
theorem run_zero_of {M:Mast} {l:List (List ByteArray)} {L:List Crs} (h:runC M [] l=(L,0)):Inv M l L:=by simpa using (Inv.zero M).run l h
structure RightX (M:Mast) (x:Crs):Prop where
 sort:(simB x.sort=true∧x.flw=emp)∨(x.sort=tFlow∧nmB x.flw=true)
 cur:nmB x.cur=true
 rate:rightB x.num x.den=true
 flow:flowE M x=0
 ne:x.cur≠M.cur
theorem sim_flow {t:ByteArray} (h:simB t=true):t≠tFlow:=by
 unfold simB at h
 simp only [Bool.or_eq_true,decide_eq_true_eq] at h
 rcases h with (rfl | rfl) | rfl <;> decide
theorem form_ways {ws:List ByteArray} (h:formC ws=true):(∃ t c r,ws=[t,c,r]∧simB t=true∧nmB c=true)∨(∃ f c r,ws=[tFlow,f,c,r]∧nmB f=true∧nmB c=true):=by
 unfold formC at h
 simp only [Bool.or_eq_true,Bool.and_eq_true,decide_eq_true_eq] at h
 rcases h with ⟨⟨h1,h2⟩,h3⟩ | ⟨⟨⟨h1,h2⟩,h3⟩,h4⟩
 ·match ws,h1 with
  | [t,c,r],_=>exact .inl ⟨t,c,r,rfl,h2,h3⟩
 ·match ws,h1 with
  | [t,f,c,r],_ =>
    have e:t=tFlow:=h2
    subst e
    exact .inr ⟨f,c,r,rfl,h3,h4⟩
theorem prs_right {l:List UInt8} (h:prsE l=0):rightB (prsN l) (prsD l)=true:=by
 have hm:mkE (parseV (ahead l)) (parseV (behind l))=0:=by
  have h0:=h
  unfold prsE at h0
  split at h0
  ·cases h0
  ·split at h0
   ·cases h0
   ·exact h0
 unfold prsN prsD
 rw [if_pos h,if_pos h]
 exact mk_right hm
theorem LineOk.right {M:Mast} {ws:List ByteArray} (h:LineOk M ws):RightX M (readV ws):=by
 have hr:=prs_right h.rate
 rcases form_ways h.form with ⟨t,c,r,rfl,h1,h2⟩ | ⟨f,c,r,rfl,h1,h2⟩
 ·exact ⟨.inl ⟨h1,if_neg (sim_flow h1)⟩,h2,hr,h.flow,h.cur⟩
 ·exact ⟨.inr ⟨rfl,h1⟩,h2,hr,h.flow,h.cur⟩
theorem Inv.rightX {M:Mast} {l:List (List ByteArray)} {L:List Crs} (h:Inv M l L):∀ x∈L,RightX M x:=fun x hx=>by
 obtain ⟨ws,hw,rfl⟩:=List.mem_map.1 (h.perm.mem_iff.1 hx)
 exact (h.good ws hw).right
theorem nd_le:∀ (k u:Nat),u < 10 ^ (k+1)→Lib.nDigits u≤k+1
 | 0,u,h=>by rw [Lib.nDigits_small (by simpa using h)];omega
 | k+1,u,h=>by
   by_cases h1:u < 10
   ·rw [Lib.nDigits_small h1];omega
   ·rw [Lib.nDigits_big h1]
    have:=nd_le k (u / 10) (by rw [Nat.div_lt_iff_lt_mul (by omega)];rw [Nat.pow_succ] at h;exact h)
    omega
theorem prt_len {n d:Int} (h:rightB n d=true):(prt n d).length≤21:=by
 obtain ⟨⟨n1,n2⟩,⟨d1,d2⟩,_⟩:=(rightB_iff n d).1 h
 have hl:∀ x:Int,1≤x→x≤1000000000→(Lib.itoa x).length≤10:=fun x h1 h2=>by
  rw [itoa_length,if_neg (by omega),Nat.add_zero]
  exact nd_le 9 _ (by omega)
 have a:=hl n n1 n2
 have b:=hl d d1 d2
 unfold prt
 rw [if_pos h]
 split
 ·omega
 ·simp only [List.length_append,List.length_cons];omega
theorem nm_len {s:ByteArray} (h:nmB s=true):1≤s.data.toList.length:=by
 unfold nmB nameL at h
 simp only [Bool.and_eq_true,decide_eq_true_eq] at h
 exact h.1.1.1
theorem sim_len {t:ByteArray} (h:simB t=true):5≤t.data.toList.length:=by
 unfold simB at h
 simp only [Bool.or_eq_true,decide_eq_true_eq] at h
 rcases h with (rfl | rfl) | rfl <;> decide
theorem words_sz {M:Mast} {ws:List ByteArray} (h:LineOk M ws):szW (wordsX (readV ws))≤4 * szW ws:=by
 have hp:=prt_len h.right.rate
 rcases form_ways h.form with ⟨t,c,r,rfl,h1,h2⟩ | ⟨f,c,r,rfl,h1,h2⟩
 ·have a1:=sim_len h1
  have a2:=nm_len h2
  rw [show wordsX (readV [t,c,r])=[t,c,mkB (prt (readV [t,c,r]).num (readV [t,c,r]).den)] from if_neg (sim_flow h1)]
  unfold szW
  simp only [lineL_two,lineL_one,List.length_append,List.length_singleton,mkB_data]
  omega
 ·have a1:=nm_len h1
  have a2:=nm_len h2
  have a3:tFlow.data.toList.length=4:=by decide
  rw [show wordsX (readV [tFlow,f,c,r])=[tFlow,f,c,mkB (prt (readV [tFlow,f,c,r]).num (readV [tFlow,f,c,r]).den)] from if_pos rfl]
  unfold szW
  simp only [lineL_two,lineL_one,List.length_append,List.length_singleton,mkB_data]
  omega
theorem words_szL {M:Mast}:∀ {l:List (List ByteArray)},(∀ ws∈l,LineOk M ws)→szL ((l.map readV).map wordsX)≤4 * szL l
 | [],_=>by simp [szL]
 | ws::l,h=>by
   have h1:=words_sz (h ws List.mem_cons_self)
   have h2:=words_szL (l:=l) fun x hx=>h x (List.mem_cons_of_mem _ hx)
   unfold szL at h2 ⊢
   simp only [List.map_cons,List.sum_cons]
   omega
theorem szL_perm' {l k:List (List ByteArray)} (h:l.Perm k):szL l=szL k:=(h.map szW).sum_nat
theorem parse_text {M:Mast} {l:List (List ByteArray)} (h:∀ ws∈l,rightW ws) (hs:szL l≤20000):parseC M (mkB (textW l))=runC M [] l:=by
 obtain ⟨h1,h2⟩:=text_back l h hs
 unfold parseC
 rw [if_pos h1,h2]
theorem parse_ways (M:Mast) (s:ByteArray):(∃ L,runC M [] (wordsT s)=(L,0)∧linE s.data.toList=0∧parseC M s=(L,0))∨((parseC M s).1=[]∧(parseC M s).2≠0):=by
 unfold parseC
 by_cases h:linE s.data.toList=0
 ·rw [if_pos h]
  have hw:∀ (k:List (List ByteArray)) (L:List Crs),(runC M L k).2=0∨((runC M L k).1=[]∧(runC M L k).2≠0):=fun k=>by
   induction k with
   | nil=>exact fun L=>.inl rfl
   | cons ws k ih =>
     intro L
     by_cases hs:stepE M L ws=0
     ·rw [runC_cons _ hs];exact ih _
     ·rw [runC_stop _ hs];exact .inr ⟨rfl,hs⟩
  rcases hw (wordsT s) [] with h1 | h1
  ·exact .inl ⟨_,Prod.ext rfl h1,h,Prod.ext rfl h1⟩
  ·exact .inr h1
 ·rw [if_neg h];exact .inr ⟨rfl,h⟩
theorem Inv.flow_none {M:Mast} {l:List (List ByteArray)} {L:List Crs} (h:Inv M l L) {f:ByteArray} (h1:kindF M f≠1) (h3:kindF M f≠3) (c:ByteArray):rateO L (tFlow,f,c)=none:=by
 unfold rateO
 cases hf:G.findK Crs.key L (tFlow,f,c) with
 | none=>rfl
 | some x =>
   obtain ⟨e,hx⟩:=G.findK_mem hf
   have hr:=(h.rightX x hx).flow
   have e1:x.sort=tFlow:=congrArg (·.1) e
   have e2:x.flw=f:=congrArg (·.2.1) e
   unfold flowE at hr
   rw [if_pos e1,e2] at hr
   split at hr
   ·cases hr
   ·split at hr
    ·rename_i h4;rcases h4 with h4 | h4
     ·exact absurd h4 h1
     ·exact absurd h4 h3
    ·cases hr
end Go.Proofs.YthcpglnmhimepaaGreatDoor.Cs
end
section
namespace Go.Proofs.YthcpglnmhimepaaGreatDoor.Cs
open Go.RowKit Go.Proofs.YthcpglnmhimepaaGreatDoor.Un Go.Proofs.YthcpglnmhimepaaGreatDoor.Pk
def encX:Enc Crs where
 cs x:=[.string x.sort,.string x.flw,.string x.cur,.int .i64 x.num,.int .i64 x.den]
 k:=5
 len _:=rfl
 pos:=by decide
 one:=by intro x v hv;simp at hv;rcases hv with rfl | rfl | rfl | rfl | rfl <;> rfl
abbrev aggX (x:Crs):Value:=.agg #[.string x.sort,.string x.flw,.string x.cur,.int .i64 x.num,.int .i64 x.den]
abbrev TabV (w:World) (v:Value) (L:List Crs):Prop:=ElsV encX w v L
theorem crs5 {w:World} {b o:Nat} {x:Crs} (h:ElAt encX w b o x):w.cell? ⟨b,o,none⟩=some (.string x.sort)∧w.cell? ⟨b,o+1,none⟩=some (.string x.flw)∧w.cell? ⟨b,o+2,none⟩=some (.string x.cur)∧w.cell? ⟨b,o+3,none⟩=some (.int .i64 x.num)∧w.cell? ⟨b,o+4,none⟩=some (.int .i64 x.den):=⟨h 0 _ rfl,h 1 _ rfl,h 2 _ rfl,h 3 _ rfl,h 4 _ rfl⟩
def wordsK (x:Crs):List ByteArray:=if x.sort=tFlow then [x.sort,x.flw,x.cur] else [x.sort,x.cur]
theorem flow_list:tFlow.toList=[102,108,111,119]:=by kernel_rfl
theorem row_texts (w:World) (ws:List ByteArray) (t:TypeId) (h:ws.length≤maxLen):(w.alloc (.cells (ws.map Value.string).toArray t)).ownsRow w.heap.size t 1 (.slice (some ⟨w.heap.size,0,none⟩) ws.length ws.length) ws.length (ws.map Value.string) :=
 ⟨by simp,.inr ⟨w.heap.size,ws.length,_,rfl,Nat.le_refl _,heap_alloc_new w _,Nat.le_refl _,h,by simp,by simp [List.take_of_length_le]⟩⟩
def OwnTold (w:World) (ws:List ByteArray) (e:Ending) (w':World):Prop:=∃ v,e=.returned v∧w'.ownsRow w.heap.size 9 1 v ws.length (ws.map Value.string)∧Below w.heap.size w w'
set_option maxRecDepth 100000 in
set_option maxHeartbeats 2000000 in
theorem words_any (x:Crs) (w:World):Calls Tryz.prog 29 #[aggX x] w (OwnTold w (wordsK x)):=by
 obtain ⟨xs,xf,xc,xn,xd⟩:=x
 obtain ⟨W1,hW1⟩:∃ W1,w.alloc (.cells #[.string xs,.string xf,.string xc,.int .i64 xn,.int .i64 xd] 90)=W1:=⟨_,rfl⟩
 have hb1:Below w.heap.size w W1:=by rw [←hW1];exact (Below.refl _ w).alloc (Nat.le_refl _) _
 have hx1:ElAt encX W1 w.heap.size 0 ⟨xs,xf,xc,xn,xd⟩:=by rw [←hW1];exact el_new encX w ⟨xs,xf,xc,xn,xd⟩ _
 have HB1:=Lib.hid hb1
 obtain ⟨c0,c1,c2,c3,c4⟩:=crs5 hx1
 simp only [Nat.zero_add] at c0 c1 c2 c3 c4
 by_cases hs:xs=tFlow
 ·have HO:Hid ((W1.alloc (.cells #[.string xs,.string xf,.string xc] 9)).ownsRow w.heap.size 9 1 (.slice (some ⟨W1.heap.size,0,none⟩) 3 3) 3 [.string xs,.string xf,.string xc]):=Lib.hid (row_base (row_texts W1 [xs,xf,xc] 9 (by simp [maxLen])) hb1.size)
  have HB2:Hid (Below w.heap.size w (W1.alloc (.cells #[.string xs,.string xf,.string xc] 9))):=Lib.hid (hb1.alloc hb1.size _)
  have hk:wordsK ⟨xs,xf,xc,xn,xd⟩=[xs,xf,xc]:=if_pos hs
  rw [hk]
  have hz:(xs.toList==[102,108,111,119])=true:=by rw [←flow_list,hs];exact beq_self_eq_true _
  clear hs hk hb1 hx1
  go_enter Tryz.func29,Tryz.ntmps29
  go_wp2
  go_ret
  exact ⟨_,rfl,HO.out,HB2.out⟩
 ·have HO:Hid ((W1.alloc (.cells #[.string xs,.string xc] 9)).ownsRow w.heap.size 9 1 (.slice (some ⟨W1.heap.size,0,none⟩) 2 2) 2 [.string xs,.string xc]):=Lib.hid (row_base (row_texts W1 [xs,xc] 9 (by simp [maxLen])) hb1.size)
  have HB2:Hid (Below w.heap.size w (W1.alloc (.cells #[.string xs,.string xc] 9))):=Lib.hid (hb1.alloc hb1.size _)
  have hk:wordsK ⟨xs,xf,xc,xn,xd⟩=[xs,xc]:=if_neg hs
  rw [hk]
  have hz:(xs.toList==[102,108,111,119])=false:=by rw [←flow_list];exact (Lib.bytes_beq_false_iff xs tFlow).2 hs
  clear hs hk hb1 hx1
  go_enter Tryz.func29,Tryz.ntmps29
  go_wp2
  go_ret
  exact ⟨_,rfl,HO.out,HB2.out⟩
theorem drop_of {α:Type} {L:List α} {i:Nat} {x:α} (h:L[i]?=some x):L.drop i=x::L.drop (i+1):=by
 obtain ⟨hi,rfl⟩:=List.getElem?_eq_some_iff.1 h
 exact List.drop_eq_getElem_cons hi
end Go.Proofs.YthcpglnmhimepaaGreatDoor.Cs
end
section
namespace Go.Proofs.YthcpglnmhimepaaGreatDoor.Cs
open Go.RowKit Go.Proofs.YthcpglnmhimepaaGreatDoor.Un Go.Proofs.YthcpglnmhimepaaGreatDoor.Pk
def fndN (L:List Crs) (k:ByteArray × ByteArray × ByteArray):Int:=((G.findK Crs.key L k).map Crs.num).getD 0
def fndD (L:List Crs) (k:ByteArray × ByteArray × ByteArray):Int:=((G.findK Crs.key L k).map Crs.den).getD 0
def fndB (L:List Crs) (k:ByteArray × ByteArray × ByteArray):Bool:=(G.findK Crs.key L k).isSome
theorem fnd_first {L:List Crs} {k:ByteArray × ByteArray × ByteArray} {i:Nat} {x:Crs} (hb:∀ (j:Nat) (y:Crs),j < i→L[j]?=some y→y.key≠k) (hx:L[i]?=some x) (h:x.key=k):G.findK Crs.key L k=some x:=by
 induction L generalizing i with
 | nil=>simp at hx
 | cons a L ih =>
   cases i with
   | zero =>
     simp at hx
     subst hx
     unfold G.findK
     rw [if_pos h]
   | succ i =>
     unfold G.findK
     rw [if_neg (hb 0 a (Nat.succ_pos _) rfl)]
     exact ih (fun j y hj hy=>hb (j+1) y (Nat.succ_lt_succ hj) (by simpa using hy)) (by simpa using hx)
theorem fnd_nowhere {L:List Crs} {k:ByteArray × ByteArray × ByteArray} (h:∀ (j:Nat) (y:Crs),L[j]?=some y→y.key≠k):G.findK Crs.key L k=none :=
 G.findK_none fun x hx=>by
  obtain ⟨i,hi,e⟩:=List.mem_iff_getElem.1 hx
  exact h i x (by rw [List.getElem?_eq_getElem hi,e])
theorem fnd_rate (L:List Crs) (k:ByteArray × ByteArray × ByteArray):rateO L k=if fndB L k=true then some (fndN L k,fndD L k) else none:=by
 unfold rateO fndB fndN fndD
 cases G.findK Crs.key L k <;> simp
set_option maxRecDepth 100000 in
set_option maxHeartbeats 4000000 in
theorem find_any (vl:Value) (L:List Crs) (s f c:ByteArray) (w:World) (hV:TabV w vl L) (hL:L.length≤1000) :
 Calls Tryz.prog 37 #[vl,.string s,.string f,.string c] w fun e w'=>e=.returned (.tuple #[.agg #[.int .i64 (fndN L (s,f,c)),.int .i64 (fndD L (s,f,c))],.bool (fndB L (s,f,c))])∧Below w.heap.size w w':=by
 obtain ⟨pv,cp,rfl,hcap,hmx,_,hcl⟩:=id hV
 obtain ⟨n,hn⟩:∃ n,L.length=n:=⟨_,rfl⟩
 obtain ⟨N,hN⟩:∃ N,fndN L (s,f,c)=N:=⟨_,rfl⟩
 obtain ⟨D,hD⟩:∃ D,fndD L (s,f,c)=D:=⟨_,rfl⟩
 obtain ⟨B,hB⟩:∃ B,fndB L (s,f,c)=B:=⟨_,rfl⟩
 have hb1:=(Below.refl w.heap.size w).alloc (Nat.le_refl _) (.cells #[.int .i64 0,.int .i64 0] 56)
 have hv1:=Ra.RateVar.mk w 0 0 56
 obtain ⟨W1,hW1⟩:∃ W1,w.alloc (.cells #[.int .i64 0,.int .i64 0] 56)=W1:=⟨_,rfl⟩
 rw [hW1] at hb1 hv1
 have HB1:=Lib.hid hb1
 have HV1:=Lib.hid hv1
 have HVL:=Lib.hid hV
 have HNN:=Lib.hid hn
 have HNM:=Lib.hid hN
 have HDM:=Lib.hid hD
 have HBM:=Lib.hid hB
 rw [hN,hD,hB]
 rw [hn] at hcap hL HVL
 rw [hn]
 clear hV hcl hn hN hD hB hb1 hv1 hmx
 go_enter Tryz.func37,Tryz.ntmps37
 go_wp2_with fail
 clear hW1
 go_loopw [10] (fun s10 wr=>∃ i:Nat,s10=.int .i64 (i:Int)∧i≤n∧Hid (∀ (j:Nat) (y:Crs),j < i→L[j]?=some y→y.key≠(s,f,c))∧Hid (Below w.heap.size w wr)∧Hid (Ra.RateVar wr w.heap.size 0 0)) (fun s10 _=>n - (intOf s10).toNat)
 case atStart=>exact ⟨0,rfl,Nat.zero_le _,Lib.hid fun j y hj=>absurd hj (Nat.not_lt_zero _),HB1,HV1⟩
 case round =>
  obtain ⟨i,rfl,hi,HNO,HBr,HVr⟩:=hrel
  by_cases hlt:i < n
  ·obtain ⟨x,hx⟩:∃ x,L[i]?=some x:=⟨_,List.getElem?_eq_getElem (by rw [HNN.out];exact hlt)⟩
   obtain ⟨b,o,e',hat⟩:=Fa.ElsV.at_ HVL.out hx
   cases e'
   obtain ⟨r0,r1,r2,r3,r4⟩:=crs5 (hat.keep HBr.out hat.lt)
   simp only [show encX.k=5 from rfl] at r0 r1 r2 r3 r4
   have HX:=Lib.hid hx
   clear hx hat
   have hnx:Hid (x.key≠(s,f,c)→∀ (j:Nat) (y:Crs),j < i+1→L[j]?=some y→y.key≠(s,f,c)):=Lib.hid fun hne j y hj hy=>by
    rcases Nat.lt_or_ge j i with h | h
    ·exact HNO.out j y h hy
    ·obtain rfl:j=i:=by omega
     rw [HX.out] at hy
     cases hy
     exact hne
   cases h1:(x.sort.toList==s.toList) with
   | false =>
     have HN2:=Lib.hid (hnx.out fun e=>(Lib.bytes_beq_false_iff x.sort s).1 h1 (congrArg Prod.fst e))
     go_wp2
     go_roundw
     case rel=>exact ⟨i+1,by go_num,by omega,HN2,HBr,HVr⟩
     case measure=>simp [intOf];omega
   | true =>
   cases h2:(x.flw.toList==f.toList) with
   | false =>
     have HN2:=Lib.hid (hnx.out fun e=>(Lib.bytes_beq_false_iff x.flw f).1 h2 (congrArg (fun z=>z.2.1) e))
     go_wp2
     go_roundw
     case rel=>exact ⟨i+1,by go_num,by omega,HN2,HBr,HVr⟩
     case measure=>simp [intOf];omega
   | true =>
   cases h3:(x.cur.toList==c.toList) with
   | false =>
     have HN2:=Lib.hid (hnx.out fun e=>(Lib.bytes_beq_false_iff x.cur c).1 h3 (congrArg (fun z=>z.2.2) e))
     go_wp2
     go_roundw
     case rel=>exact ⟨i+1,by go_num,by omega,HN2,HBr,HVr⟩
     case measure=>simp [intOf];omega
   | true =>
     have hkey:x.key=(s,f,c):=by
      unfold Crs.key
      rw [(Lib.bytes_beq_iff x.sort s).1 h1,(Lib.bytes_beq_iff x.flw f).1 h2,(Lib.bytes_beq_iff x.cur c).1 h3]
     have hfo:=fnd_first HNO.out HX.out hkey
     have HNR:Hid (x.num=N):=Lib.hid (by rw [←HNM.out];unfold fndN;rw [hfo];rfl)
     have HDR:Hid (x.den=D):=Lib.hid (by rw [←HDM.out];unfold fndD;rw [hfo];rfl)
     obtain rfl:B=true:=by rw [←HBM.out];unfold fndB;rw [hfo];rfl
     obtain ⟨⟨c0,c1⟩,f0,f1⟩:=HVr.out
     clear hkey hfo hnx
     rw [HNR.out] at r3
     rw [HDR.out] at r4
     go_wp2
     exact bodyPost_ret (v:=.tuple #[.agg #[.int .i64 N,.int .i64 D],.bool true]) (by simp [results,Tryz.results37,go_sem,c0,c1]) rfl ⟨rfl,(HBr.out.setCell (Nat.le_refl _) _).setCell (Nat.le_refl _) _⟩
  ·obtain rfl:i=n:=by omega
   have hfo:=fnd_nowhere (k:=(s,f,c)) fun j y hy=>HNO.out j y (by have:=(List.getElem?_eq_some_iff.1 hy).1;rw [HNN.out] at this;exact this) hy
   obtain rfl:N=0:=by rw [←HNM.out];unfold fndN;rw [hfo];rfl
   obtain rfl:D=0:=by rw [←HDM.out];unfold fndD;rw [hfo];rfl
   obtain rfl:B=false:=by rw [←HBM.out];unfold fndB;rw [hfo];rfl
   obtain ⟨⟨c0,c1⟩,f0,f1⟩:=HVr.out
   clear hfo
   go_wp2
   exact bodyPost_ret (v:=.tuple #[.agg #[.int .i64 0,.int .i64 0],.bool false]) (by simp [results,Tryz.results37,go_sem,c0,c1]) rfl ⟨rfl,(HBr.out.setCell (Nat.le_refl _) _).setCell (Nat.le_refl _) _⟩
end Go.Proofs.YthcpglnmhimepaaGreatDoor.Cs
end
section
namespace Go.Proofs.YthcpglnmhimepaaGreatDoor.Ra
open Go.RowKit
theorem piece_ahead' (s:ByteArray) (i:Nat):(s.extract 0 i).data.toList=s.data.toList.take i:=by
 rw [ByteArray.data_extract,Array.toList_extract]
 simp
theorem piece_behind' (s:ByteArray) (i:Nat):(s.extract i s.size).data.toList=s.data.toList.drop i:=Lib.extract_to_end s i
set_option maxRecDepth 100000 in
set_option maxHeartbeats 2000000 in
theorem qprint_any (n d:Int) (w:World) (hn:In64 n) (hd:In64 d) :
 Calls Tryz.prog 32 #[.agg #[.int .i64 n,.int .i64 d]] w fun e w'=>e=.returned (.string ⟨(prt n d).toArray⟩)∧Below w.heap.size w w':=by
 have HN:=Lib.hid hn
 have HD:=Lib.hid hd
 clear hn hd
 cases h:rightB n d with
 | false =>
   rw [show prt n d=[] by unfold prt;rw [h];rfl]
   have H:=Lib.hid h
   clear h
   go_enter Tryz.func32,Tryz.ntmps32
   go_wp2_with fail
   refine (qright_any n d _ HN.out HD.out).mono ?_
   rintro e w1 ⟨rfl,hb1⟩
   have HB1:=Lib.hid (((Below.refl w.heap.size w).alloc (Nat.le_refl _) _).trans (hb1.mono (by simp)))
   clear hb1
   rw [H.out]
   go_wp2
   go_ret
   exact ⟨rfl,HB1.out⟩
 | true =>
   have H:=Lib.hid h
   clear h
   by_cases h1:d=1
   ·subst h1
    rw [show prt n 1=Lib.itoa n by unfold prt;rw [H.out];rfl]
    go_enter Tryz.func32,Tryz.ntmps32
    go_wp2_with fail
    refine (qright_any n 1 _ HN.out HD.out).mono ?_
    rintro e w1 ⟨rfl,hb1⟩
    have HB1:=Lib.hid (((Below.refl w.heap.size w).alloc (Nat.le_refl _) _).trans (hb1.mono (by simp)))
    obtain ⟨c0,c1⟩:=(RateAt.mk w n 1 56).keep hb1 (Nat.le_refl _)
    clear hb1
    rw [H.out]
    go_wp2_with fail
    refine (Go.Proofs.YthcpglnmhimepaaGreatDoor.rprint_any n _ HN.out).mono ?_
    rintro e w2 ⟨rfl,rfl⟩
    go_wp2
    go_ret
    exact ⟨rfl,HB1.out⟩
   ·rw [show prt n d=Lib.itoa n++47::Lib.itoa d by unfold prt;rw [H.out,if_pos rfl,if_neg h1]]
    have h2:(d != 1)=true:=by simpa using h1
    clear h1
    obtain ⟨u,hu⟩:∃ u,ByteArray.mk (Lib.itoa n).toArray=u:=⟨_,rfl⟩
    obtain ⟨v,hv⟩:∃ v,ByteArray.mk (Lib.itoa d).toArray=v:=⟨_,rfl⟩
    have hus:u.size≤21:=by rw [←hu];have:=Lib.itoa_length_le n HN.out.1 HN.out.2;simpa [ByteArray.size] using this
    have hvs:v.size≤21:=by rw [←hv];have:=Lib.itoa_length_le d HD.out.1 HD.out.2;simpa [ByteArray.size] using this
    have huv:(u++⟨#[47]⟩)++v=⟨(Lib.itoa n++47::Lib.itoa d).toArray⟩:=by
     rw [←hu,←hv]
     apply ByteArray.ext
     simp [ByteArray.data_append]
    rw [←huv]
    have q1:¬ 9223372036854775807 < u.size+1:=by omega
    have q2:¬ 9223372036854775806 < u.size:=by omega
    have q3:¬ 9223372036854775807 < u.size+1+v.size:=by omega
    have HPU:Hid (∀ W:World,Calls Tryz.prog 58 #[.int .i64 n] W fun e w'=>e=.returned (.string u)∧W=w'):=Lib.hid fun W=>by
     have:=Go.Proofs.YthcpglnmhimepaaGreatDoor.rprint_any n W HN.out
     rw [hu] at this
     exact this
    have HPV:Hid (∀ W:World,Calls Tryz.prog 58 #[.int .i64 d] W fun e w'=>e=.returned (.string v)∧W=w'):=Lib.hid fun W=>by
     have:=Go.Proofs.YthcpglnmhimepaaGreatDoor.rprint_any d W HD.out
     rw [hv] at this
     exact this
    clear hu hv huv hus hvs
    go_enter Tryz.func32,Tryz.ntmps32
    go_wp2_with fail
    refine (qright_any n d _ HN.out HD.out).mono ?_
    rintro e w1 ⟨rfl,hb1⟩
    have HB1:=Lib.hid (((Below.refl w.heap.size w).alloc (Nat.le_refl _) _).trans (hb1.mono (by simp)))
    obtain ⟨c0,c1⟩:=(RateAt.mk w n d 56).keep hb1 (Nat.le_refl _)
    clear hb1
    rw [H.out]
    go_wp2_with fail
    refine (HPU.out _).mono ?_
    rintro e w2 ⟨rfl,rfl⟩
    go_wp2_with fail
    refine (HPV.out _).mono ?_
    rintro e w2 ⟨rfl,rfl⟩
    go_wp2
    go_ret
    exact ⟨rfl,HB1.out⟩
theorem prs_all (l:List UInt8):((parseE (ahead l)=5∨parseE (behind l)=5)→prsE l=5∧prsN l=0∧prsD l=0)∧(parseE (ahead l)≠5→parseE (behind l)≠5→(parseE (ahead l)≠0∨parseE (behind l)≠0)→prsE l=4∧prsN l=0∧prsD l=0)∧(parseE (ahead l)=0→parseE (behind l)=0→prsE l=mkE (parseV (ahead l)) (parseV (behind l))∧prsN l=mkN (parseV (ahead l)) (parseV (behind l))∧prsD l=mkD (parseV (ahead l)) (parseV (behind l))):=by
 refine ⟨fun h=>?_,fun h1 h2 h3=>?_,fun h1 h2=>prs_of rfl h1 rfl h2⟩
 ·have e:prsE l=5:=if_pos h
  exact ⟨e,if_neg (by rw [e];decide),if_neg (by rw [e];decide)⟩
 ·have e:prsE l=4:=by
   unfold prsE
   rw [if_neg (fun h=>h.elim h1 h2),if_pos h3]
  exact ⟨e,if_neg (by rw [e];decide),if_neg (by rw [e];decide)⟩
set_option maxRecDepth 100000 in
set_option maxHeartbeats 4000000 in
theorem qparse_any (s:ByteArray) (w:World) (hs:s.size≤1000000) :
 Calls Tryz.prog 20 #[.string s] w fun e w'=>e=.returned (.tuple #[.agg #[.int .i64 (prsN s.data.toList),.int .i64 (prsD s.data.toList)],.int .i64 (prsE s.data.toList)])∧Below w.heap.size w w':=by
 obtain ⟨l,hl⟩:∃ l,s.data.toList=l:=⟨_,rfl⟩
 have HL:=Lib.hid hl
 have hls:l.length=s.size:=by rw [←hl];rfl
 have HLS:=Lib.hid hls
 have hR:=prs_all l
 have hi1:=in64_of_fit (fit_parseV (ahead l))
 have hi2:=in64_of_fit (fit_parseV (behind l))
 rw [hl]
 obtain ⟨p,hp⟩:∃ p,parseV (ahead l)=p:=⟨_,rfl⟩
 obtain ⟨q,hq⟩:∃ q,parseV (behind l)=q:=⟨_,rfl⟩
 obtain ⟨pe,hpe⟩:∃ p,parseE (ahead l)=p:=⟨_,rfl⟩
 obtain ⟨qe,hqe⟩:∃ q,parseE (behind l)=q:=⟨_,rfl⟩
 obtain ⟨N,hN⟩:∃ N,prsN l=N:=⟨_,rfl⟩
 obtain ⟨D,hD⟩:∃ D,prsD l=D:=⟨_,rfl⟩
 obtain ⟨E,hE⟩:∃ E,prsE l=E:=⟨_,rfl⟩
 rw [hp,hq,hpe,hqe,hN,hD,hE] at hR
 rw [hp] at hi1
 rw [hq] at hi2
 rw [hN,hD,hE]
 have HRES:=Lib.hid hR
 have HI1:=Lib.hid hi1
 have HI2:=Lib.hid hi2
 have HPV:=Lib.hid (And.intro hp (And.intro hpe (And.intro hq hqe)))
 have hb1:=(Below.refl w.heap.size w).alloc (Nat.le_refl _) (.cells #[.int .i64 0,.int .i64 0] 56)
 have hv1:=RateVar.mk w 0 0 56
 obtain ⟨W1,hW1⟩:∃ W1,w.alloc (.cells #[.int .i64 0,.int .i64 0] 56)=W1:=⟨_,rfl⟩
 rw [hW1] at hb1 hv1
 have HB1:=Lib.hid hb1
 have HV1:=Lib.hid hv1
 clear hl hls hR hi1 hi2 hp hq hpe hqe hN hD hE hb1 hv1
 go_enter Tryz.func20,Tryz.ntmps20
 go_wp2_with fail
 clear hW1
 go_loopw [4,5,6] (fun s4 s5 s6 wr=>∃ i:Nat,s6=.int .i64 (i:Int)∧i≤s.size∧s4=.string s∧s5=.string ⟨#[49]⟩∧Hid (∀ c∈l.take i,c≠47)∧Hid (Below w.heap.size w wr)∧Hid (RateVar wr w.heap.size 0 0)) (fun _ _ s6 _=>s.size - (intOf s6).toNat)
 case atStart=>exact ⟨0,rfl,Nat.zero_le _,rfl,rfl,Lib.hid (by simp),HB1,HV1⟩
 case round =>
  obtain ⟨i,rfl,hi,rfl,rfl,HNS,HBr,VRr⟩:=hrel
  by_cases hlt:i < s.size
  ·have hlt2:i < l.length:=by rw [HLS.out];exact hlt
   have hbyte:s[i]=l[i]:=by
    have e:=HL.out
    subst e
    rfl
   have hcb:s[i].toNat < 256:=UInt8.toNat_lt _
   by_cases h47:s[i].toNat=47
   ·have h47b:((s[i].toNat:Int)==47)=true:=by rw [beq_iff_eq];omega
    have h47c:l[i]=47:=by rw [←hbyte];exact UInt8.toNat_inj.1 h47
    have hsp:l=l.take i++47::l.drop (i+1):=by rw [←h47c,←List.drop_eq_getElem_cons hlt2,List.take_append_drop]
    have hab:ahead l=l.take i∧behind l=l.drop (i+1):=by
     have:=ahead_slash (l.take i) (l.drop (i+1)) HNS.out
     rw [←hsp] at this
     exact this
    have HU:Hid ((s.extract 0 i).data.toList=ahead l):=Lib.hid (by rw [piece_ahead',hab.1,HL.out])
    have HV:Hid ((s.extract (i+1) s.size).data.toList=behind l):=Lib.hid (by rw [piece_behind',hab.2,HL.out])
    have HSU:Hid ((s.extract 0 i).size≤maxLen):=Lib.hid (by rw [ByteArray.size_extract];unfold maxLen;omega)
    have HSV:Hid ((s.extract (i+1) s.size).size≤maxLen):=Lib.hid (by rw [ByteArray.size_extract];unfold maxLen;omega)
    clear hsp hab h47c hbyte h47
    have HP1:Hid (∀ W:World,Calls Tryz.prog 39 #[.string (s.extract 0 i)] W fun e w'=>e=.returned (.tuple #[.int .i64 p,.int .i64 pe])∧W=w'):=Lib.hid fun W=>by
     have:=crnum_any (s.extract 0 i) W (by first | exact HSU.out | (unfold maxLen;decide))
     rw [HU.out,HPV.out.1,HPV.out.2.1] at this
     exact this
    have HP2:Hid (∀ W:World,Calls Tryz.prog 39 #[.string (s.extract (i+1) s.size)] W fun e w'=>e=.returned (.tuple #[.int .i64 q,.int .i64 qe])∧W=w'):=Lib.hid fun W=>by
     have:=crnum_any (s.extract (i+1) s.size) W (by first | exact HSV.out | (unfold maxLen;decide))
     rw [HV.out,HPV.out.2.2.1,HPV.out.2.2.2] at this
     exact this
    clear HU HV
    go_wp2_with fail
    refine (HP1.out _).mono ?_
    rintro e w1 ⟨rfl,rfl⟩
    go_wp2_with fail
    refine (HP2.out _).mono ?_
    rintro e w1 ⟨rfl,rfl⟩
    obtain ⟨⟨c0,c1⟩,f0,f1⟩:=VRr.out
    by_cases h5:pe=5
    ·subst h5
     have HR:Hid (E=5∧N=0∧D=0):=Lib.hid (HRES.out.1 (.inl rfl))
     obtain ⟨rfl,rfl,rfl⟩:=HR.out
     go_wp2
     exact bodyPost_ret (v:=.tuple #[.agg #[.int .i64 0,.int .i64 0],.int .i64 5]) (by simp [results,Tryz.results20,go_sem,c0,c1]) rfl ⟨rfl,(HBr.out.setCell (Nat.le_refl _) _).setCell (Nat.le_refl _) _⟩
    ·have g5:(pe==5)=false:=by simpa using h5
     by_cases k5:qe=5
     ·subst k5
      have HR:Hid (E=5∧N=0∧D=0):=Lib.hid (HRES.out.1 (.inr rfl))
      obtain ⟨rfl,rfl,rfl⟩:=HR.out
      clear h5
      go_wp2
      exact bodyPost_ret (v:=.tuple #[.agg #[.int .i64 0,.int .i64 0],.int .i64 5]) (by simp [results,Tryz.results20,go_sem,c0,c1]) rfl ⟨rfl,(HBr.out.setCell (Nat.le_refl _) _).setCell (Nat.le_refl _) _⟩
     ·have m5:(qe==5)=false:=by simpa using k5
      by_cases h0:pe=0
      ·by_cases k0:qe=0
       ·subst h0 k0
        have HR:Hid (E=mkE p q∧N=mkN p q∧D=mkD p q):=Lib.hid (HRES.out.2.2 rfl rfl)
        clear h5 k5
        go_wp2_with fail
        refine (qmake_any p q _ HI1.out HI2.out).mono ?_
        rintro e w3 ⟨rfl,hb3⟩
        have V3:=VRr.out.keep hb3 (Nat.le_refl _)
        have HB3:=Lib.hid (HBr.out.trans (hb3.mono HBr.out.size))
        rw [←HR.out.1,←HR.out.2.1,←HR.out.2.2]
        clear hb3 c0 c1 f0 f1
        obtain ⟨⟨c0,c1⟩,f0,f1⟩:=V3
        go_wp2
        exact bodyPost_ret (v:=.tuple #[.agg #[.int .i64 N,.int .i64 D],.int .i64 E]) (by simp [results,Tryz.results20,go_sem,c0,c1]) rfl ⟨rfl,(HB3.out.setCell (Nat.le_refl _) _).setCell (Nat.le_refl _) _⟩
       ·have k01:(qe != 0)=true:=by simpa using k0
        have HR:Hid (E=4∧N=0∧D=0):=Lib.hid (HRES.out.2.1 h5 k5 (.inr k0))
        obtain ⟨rfl,rfl,rfl⟩:=HR.out
        subst h0
        clear h5 k5 k0
        go_wp2
        exact bodyPost_ret (v:=.tuple #[.agg #[.int .i64 0,.int .i64 0],.int .i64 4]) (by simp [results,Tryz.results20,go_sem,c0,c1]) rfl ⟨rfl,(HBr.out.setCell (Nat.le_refl _) _).setCell (Nat.le_refl _) _⟩
      ·have h01:(pe != 0)=true:=by simpa using h0
       have HR:Hid (E=4∧N=0∧D=0):=Lib.hid (HRES.out.2.1 h5 k5 (.inl h0))
       obtain ⟨rfl,rfl,rfl⟩:=HR.out
       clear h5 k5 h0
       go_wp2
       exact bodyPost_ret (v:=.tuple #[.agg #[.int .i64 0,.int .i64 0],.int .i64 4]) (by simp [results,Tryz.results20,go_sem,c0,c1]) rfl ⟨rfl,(HBr.out.setCell (Nat.le_refl _) _).setCell (Nat.le_refl _) _⟩
   ·have h47b:((s[i].toNat:Int)==47)=false:=by rw [beq_eq_false_iff_ne];omega
    have HNS2:Hid (∀ c∈l.take (i+1),c≠47):=Lib.hid (fun c hc=>by
     rw [List.take_add_one,List.getElem?_eq_getElem hlt2] at hc
     rcases List.mem_append.1 hc with h | h
     ·exact HNS.out c h
     ·simp at h
      subst h
      intro e
      rw [←hbyte] at e
      exact h47 (by rw [e];rfl))
    clear hbyte h47
    go_wp2
    go_roundw
    case rel=>exact ⟨i+1,by go_num,by omega,rfl,rfl,HNS2,HBr,VRr⟩
    case measure=>simp [intOf];omega
  ·obtain rfl:i=s.size:=by omega
   have hab:=ahead_none l (fun c hc=>HNS.out c (by rw [List.take_of_length_le (by rw [HLS.out];exact Nat.le_refl _)];exact hc))
   have HU:Hid (s.data.toList=ahead l):=Lib.hid (by rw [hab.1,HL.out])
   have HV:Hid ((⟨#[49]⟩:ByteArray).data.toList=behind l):=Lib.hid (by rw [hab.2])
   have HSU:Hid (s.size≤maxLen):=Lib.hid (by unfold maxLen;omega)
   clear hab
   have HP1:Hid (∀ W:World,Calls Tryz.prog 39 #[.string s] W fun e w'=>e=.returned (.tuple #[.int .i64 p,.int .i64 pe])∧W=w'):=Lib.hid fun W=>by
    have:=crnum_any s W (by first | exact HSU.out | (unfold maxLen;decide))
    rw [HU.out,HPV.out.1,HPV.out.2.1] at this
    exact this
   have HP2:Hid (∀ W:World,Calls Tryz.prog 39 #[.string (⟨#[49]⟩:ByteArray)] W fun e w'=>e=.returned (.tuple #[.int .i64 q,.int .i64 qe])∧W=w'):=Lib.hid fun W=>by
    have:=crnum_any (⟨#[49]⟩:ByteArray) W (by first | exact HSV.out | (unfold maxLen;decide))
    rw [HV.out,HPV.out.2.2.1,HPV.out.2.2.2] at this
    exact this
   clear HU HV
   go_wp2_with fail
   refine (HP1.out _).mono ?_
   rintro e w1 ⟨rfl,rfl⟩
   go_wp2_with fail
   refine (HP2.out _).mono ?_
   rintro e w1 ⟨rfl,rfl⟩
   obtain ⟨⟨c0,c1⟩,f0,f1⟩:=VRr.out
   by_cases h5:pe=5
   ·subst h5
    have HR:Hid (E=5∧N=0∧D=0):=Lib.hid (HRES.out.1 (.inl rfl))
    obtain ⟨rfl,rfl,rfl⟩:=HR.out
    go_wp2
    exact bodyPost_ret (v:=.tuple #[.agg #[.int .i64 0,.int .i64 0],.int .i64 5]) (by simp [results,Tryz.results20,go_sem,c0,c1]) rfl ⟨rfl,(HBr.out.setCell (Nat.le_refl _) _).setCell (Nat.le_refl _) _⟩
   ·have g5:(pe==5)=false:=by simpa using h5
    by_cases k5:qe=5
    ·subst k5
     have HR:Hid (E=5∧N=0∧D=0):=Lib.hid (HRES.out.1 (.inr rfl))
     obtain ⟨rfl,rfl,rfl⟩:=HR.out
     clear h5
     go_wp2
     exact bodyPost_ret (v:=.tuple #[.agg #[.int .i64 0,.int .i64 0],.int .i64 5]) (by simp [results,Tryz.results20,go_sem,c0,c1]) rfl ⟨rfl,(HBr.out.setCell (Nat.le_refl _) _).setCell (Nat.le_refl _) _⟩
    ·have m5:(qe==5)=false:=by simpa using k5
     by_cases h0:pe=0
     ·by_cases k0:qe=0
      ·subst h0 k0
       have HR:Hid (E=mkE p q∧N=mkN p q∧D=mkD p q):=Lib.hid (HRES.out.2.2 rfl rfl)
       clear h5 k5
       go_wp2_with fail
       refine (qmake_any p q _ HI1.out HI2.out).mono ?_
       rintro e w3 ⟨rfl,hb3⟩
       have V3:=VRr.out.keep hb3 (Nat.le_refl _)
       have HB3:=Lib.hid (HBr.out.trans (hb3.mono HBr.out.size))
       rw [←HR.out.1,←HR.out.2.1,←HR.out.2.2]
       clear hb3 c0 c1 f0 f1
       obtain ⟨⟨c0,c1⟩,f0,f1⟩:=V3
       go_wp2
       exact bodyPost_ret (v:=.tuple #[.agg #[.int .i64 N,.int .i64 D],.int .i64 E]) (by simp [results,Tryz.results20,go_sem,c0,c1]) rfl ⟨rfl,(HB3.out.setCell (Nat.le_refl _) _).setCell (Nat.le_refl _) _⟩
      ·have k01:(qe != 0)=true:=by simpa using k0
       have HR:Hid (E=4∧N=0∧D=0):=Lib.hid (HRES.out.2.1 h5 k5 (.inr k0))
       obtain ⟨rfl,rfl,rfl⟩:=HR.out
       subst h0
       clear h5 k5 k0
       go_wp2
       exact bodyPost_ret (v:=.tuple #[.agg #[.int .i64 0,.int .i64 0],.int .i64 4]) (by simp [results,Tryz.results20,go_sem,c0,c1]) rfl ⟨rfl,(HBr.out.setCell (Nat.le_refl _) _).setCell (Nat.le_refl _) _⟩
     ·have h01:(pe != 0)=true:=by simpa using h0
      have HR:Hid (E=4∧N=0∧D=0):=Lib.hid (HRES.out.2.1 h5 k5 (.inl h0))
      obtain ⟨rfl,rfl,rfl⟩:=HR.out
      clear h5 k5 h0
      go_wp2
      exact bodyPost_ret (v:=.tuple #[.agg #[.int .i64 0,.int .i64 0],.int .i64 4]) (by simp [results,Tryz.results20,go_sem,c0,c1]) rfl ⟨rfl,(HBr.out.setCell (Nat.le_refl _) _).setCell (Nat.le_refl _) _⟩
end Go.Proofs.YthcpglnmhimepaaGreatDoor.Ra
end
