/- UnitRun UnitOk UnitBackP PkPlain -/
import Derived.Test.YtfhhihamndbcnaaGreatDoorR23
import Derived.Test.YtfhhihamndbcnaaGreatDoorR26
import Derived.Test.YtfhhihamndbcnaaGreatDoorR27
section
namespace Go.Proofs.YtfhhihamndbcnaaGreatDoor.Un
open Go.RowKit
def acO (ws:List ByteArray):Option Acct:=if wd ws 0=tAccount∧(parseA ws).2=0 then some (parseA ws).1 else none
def flO (ws:List ByteArray):Option Fl.Flow:=if wd ws 0=Fl.tFlow∧(Fl.parseF ws).2=0 then some (Fl.parseF ws).1 else none
def enO (ws:List ByteArray):Option Ent:=if wd ws 0=tEntity∧formedW ws=true then some (entOf ws) else none
def liO (ws:List ByteArray):Option Lin:=if wd ws 0=tMap∧formedW ws=true then some (linOf ws) else none
def onO (t:ByteArray) (ws:List ByteArray):Option ByteArray:=if wd ws 0=t∧formedW ws=true then some (wd ws 1) else none
theorem acO_no {ws:List ByteArray} (h:wd ws 0≠tAccount):acO ws=none:=by unfold acO;rw [if_neg (fun e=>h e.1)]
theorem flO_no {ws:List ByteArray} (h:wd ws 0≠Fl.tFlow):flO ws=none:=by unfold flO;rw [if_neg (fun e=>h e.1)]
theorem enO_no {ws:List ByteArray} (h:wd ws 0≠tEntity):enO ws=none:=by unfold enO;rw [if_neg (fun e=>h e.1)]
theorem liO_no {ws:List ByteArray} (h:wd ws 0≠tMap):liO ws=none:=by unfold liO;rw [if_neg (fun e=>h e.1)]
theorem onO_no {t:ByteArray} {ws:List ByteArray} (h:wd ws 0≠t):onO t ws=none:=by unfold onO;rw [if_neg (fun e=>h e.1)]
theorem acO_yes {ws:List ByteArray} (h:wd ws 0=tAccount) (hp:(parseA ws).2=0):acO ws=some (parseA ws).1:=by unfold acO;rw [if_pos ⟨h,hp⟩]
theorem flO_yes {ws:List ByteArray} (h:wd ws 0=Fl.tFlow) (hp:(Fl.parseF ws).2=0):flO ws=some (Fl.parseF ws).1:=by unfold flO;rw [if_pos ⟨h,hp⟩]
theorem enO_yes {ws:List ByteArray} (h:wd ws 0=tEntity) (hp:formedW ws=true):enO ws=some (entOf ws):=by unfold enO;rw [if_pos ⟨h,hp⟩]
theorem liO_yes {ws:List ByteArray} (h:wd ws 0=tMap) (hp:formedW ws=true):liO ws=some (linOf ws):=by unfold liO;rw [if_pos ⟨h,hp⟩]
theorem onO_yes {t:ByteArray} {ws:List ByteArray} (h:wd ws 0=t) (hp:formedW ws=true):onO t ws=some (wd ws 1):=by unfold onO;rw [if_pos ⟨h,hp⟩]
def Good (ws:List ByteArray):Prop:=(wd ws 0=tAccount∧(parseA ws).2=0)∨(wd ws 0=Fl.tFlow∧(Fl.parseF ws).2=0)∨formedW ws=true
def oneL (x:ByteArray):List ByteArray:=if x=emp then [] else [x]
theorem oneL_no:oneL emp=[]:=by simp [oneL]
theorem oneL_yes {x:ByteArray} (h:x≠emp):oneL x=[x]:=by simp [oneL,h]
structure Inv (l:List (List ByteArray)) (M:Mast):Prop where
 chart:M.chart.Perm (l.filterMap acO)
 flows:M.flows.Perm (l.filterMap flO)
 ents:M.ents.Perm (l.filterMap enO)
 lines:M.lines.Perm (l.filterMap liO)
 cur:l.filterMap (onO tGroup)=oneL M.cur
 res:l.filterMap (onO tReserve)=oneL M.res
 dif:l.filterMap (onO tDiffer)=oneL M.dif
 min:l.filterMap (onO tMinor)=oneL M.min
 stk:l.filterMap (onO tStake)=oneL M.stk
 sane:Sane M
 good:∀ ws∈l,Good ws
theorem Inv.zero:Inv [] zeroM:=⟨.refl _,.refl _,.refl _,.refl _,rfl,rfl,rfl,rfl,rfl,Sane.zero,fun _ h=>by cases h⟩
theorem fm_no {α:Type} {f:List ByteArray→Option α} {l:List (List ByteArray)} {ws:List ByteArray} (h:f ws=none):(l++[ws]).filterMap f=l.filterMap f:=by simp [List.filterMap_append,h]
theorem fm_yes {α:Type} {f:List ByteArray→Option α} {l:List (List ByteArray)} {ws:List ByteArray} {x:α} (h:f ws=some x):(l++[ws]).filterMap f=l.filterMap f++[x]:=by simp [List.filterMap_append,h]
theorem perm_snoc {α:Type} {A B:List α} {x:α} {C:List α} (h:A.Perm B) (hc:C.Perm (x::A)):C.Perm (B++[x]) :=
 hc.trans ((List.Perm.cons x h).trans (List.perm_append_singleton x B).symm)
theorem insL_perm (L:List Acct) (x:Acct):(insL L x).Perm (x::L):=by
 rw [insL_eq]
 exact List.perm_middle.trans (by rw [List.take_append_drop])
theorem insK_perm (L:List Fl.Flow) (x:Fl.Flow):(insK Fl.Flow.code L x).Perm (x::L):=by
 unfold insK
 exact List.perm_middle.trans (by rw [List.take_append_drop])
theorem formed_one {ws:List ByteArray} (hf:formedW ws=true) (h:wd ws 0≠tEntity) (h':wd ws 0≠tMap):wd ws 1≠emp:=by
 rcases formed_ways hf with ⟨h0,_⟩ | ⟨h0,_⟩ | ⟨_,a,h1,ha⟩
 ·exact absurd h0 h
 ·exact absurd h0 h'
 ·rw [h1];exact nm_ne ha
theorem Inv.step {l:List (List ByteArray)} {M:Mast} {ws:List ByteArray} (h:Inv l M) (hs:stepE M ws=0):Inv (l++[ws]) (stepV M ws):=by
 have hsn:=h.sane.step hs
 have hgd:Good ws→∀ us∈l++[ws],Good us:=fun hg us hu=>by
  rcases List.mem_append.1 hu with hu | hu
  ·exact h.good us hu
  ·simp at hu;subst hu;exact hg
 rcases step_ways hs with ⟨w0,hp,ha,e⟩ | ⟨w0,hp,ha,e⟩ | ⟨hf,w0,ha,e⟩ | ⟨hf,w0,ha,e⟩ | ⟨hf,w0,ha,e⟩ | ⟨hf,w0,ha,e⟩ | ⟨hf,w0,ha,e⟩ | ⟨hf,w0,ha,e⟩ | ⟨hf,w0,ha,e⟩
 ·rw [e] at hsn ⊢
  exact ⟨by rw [fm_yes (acO_yes w0 hp)];exact perm_snoc h.chart (insL_perm _ _),by rw [fm_no (flO_no (by rw [w0];decide))];exact h.flows,by rw [fm_no (enO_no (by rw [w0];decide))];exact h.ents,by rw [fm_no (liO_no (by rw [w0];decide))];exact h.lines,by rw [fm_no (onO_no (by rw [w0];decide))];exact h.cur,by rw [fm_no (onO_no (by rw [w0];decide))];exact h.res,by rw [fm_no (onO_no (by rw [w0];decide))];exact h.dif,by rw [fm_no (onO_no (by rw [w0];decide))];exact h.min,by rw [fm_no (onO_no (by rw [w0];decide))];exact h.stk,hsn,hgd (.inl ⟨w0,hp⟩)⟩
 ·rw [e] at hsn ⊢
  exact ⟨by rw [fm_no (acO_no (by rw [w0];decide))];exact h.chart,by rw [fm_yes (flO_yes w0 hp)];exact perm_snoc h.flows (insK_perm _ _),by rw [fm_no (enO_no (by rw [w0];decide))];exact h.ents,by rw [fm_no (liO_no (by rw [w0];decide))];exact h.lines,by rw [fm_no (onO_no (by rw [w0];decide))];exact h.cur,by rw [fm_no (onO_no (by rw [w0];decide))];exact h.res,by rw [fm_no (onO_no (by rw [w0];decide))];exact h.dif,by rw [fm_no (onO_no (by rw [w0];decide))];exact h.min,by rw [fm_no (onO_no (by rw [w0];decide))];exact h.stk,hsn,hgd (.inr (.inl ⟨w0,hp⟩))⟩
 ·rw [e] at hsn ⊢
  exact ⟨by rw [fm_no (acO_no (by rw [w0];decide))];exact h.chart,by rw [fm_no (flO_no (by rw [w0];decide))];exact h.flows,by rw [fm_yes (enO_yes w0 hf)];exact perm_snoc h.ents (G.ins_perm _ _),by rw [fm_no (liO_no (by rw [w0];decide))];exact h.lines,by rw [fm_no (onO_no (by rw [w0];decide))];exact h.cur,by rw [fm_no (onO_no (by rw [w0];decide))];exact h.res,by rw [fm_no (onO_no (by rw [w0];decide))];exact h.dif,by rw [fm_no (onO_no (by rw [w0];decide))];exact h.min,by rw [fm_no (onO_no (by rw [w0];decide))];exact h.stk,hsn,hgd (.inr (.inr hf))⟩
 ·rw [e] at hsn ⊢
  exact ⟨by rw [fm_no (acO_no (by rw [w0];decide))];exact h.chart,by rw [fm_no (flO_no (by rw [w0];decide))];exact h.flows,by rw [fm_no (enO_no (by rw [w0];decide))];exact h.ents,by rw [fm_yes (liO_yes w0 hf)];exact perm_snoc h.lines (G.ins_perm _ _),by rw [fm_no (onO_no (by rw [w0];decide))];exact h.cur,by rw [fm_no (onO_no (by rw [w0];decide))];exact h.res,by rw [fm_no (onO_no (by rw [w0];decide))];exact h.dif,by rw [fm_no (onO_no (by rw [w0];decide))];exact h.min,by rw [fm_no (onO_no (by rw [w0];decide))];exact h.stk,hsn,hgd (.inr (.inr hf))⟩
 all_goals
  have hne:=formed_one hf (by rw [w0];decide) (by rw [w0];decide)
  rw [e] at hsn ⊢
  refine ⟨by rw [fm_no (acO_no (by rw [w0];decide))];exact h.chart,by rw [fm_no (flO_no (by rw [w0];decide))];exact h.flows,by rw [fm_no (enO_no (by rw [w0];decide))];exact h.ents,by rw [fm_no (liO_no (by rw [w0];decide))];exact h.lines,?_,?_,?_,?_,?_,hsn,hgd (.inr (.inr hf))⟩
  all_goals first
   | (rw [fm_no (onO_no (by rw [w0];decide))];first | exact h.cur | exact h.res | exact h.dif | exact h.min | exact h.stk)
   | (rw [fm_yes (onO_yes w0 hf)];first | rw [h.cur] | rw [h.res] | rw [h.dif] | rw [h.min] | rw [h.stk]
      rw [ha,oneL_no]
      exact (oneL_yes hne).symm)
theorem Inv.run {l k:List (List ByteArray)} {M N:Mast} (h:Inv l M) (hr:runM M k=(N,0)):Inv (l++k) N:=by
 induction k generalizing l M with
 | nil =>
   simp only [runM,Prod.mk.injEq] at hr
   rw [List.append_nil,←hr.1];exact h
 | cons ws k ih =>
   by_cases hs:stepE M ws=0
   ·rw [runM_cons _ _ _ hs] at hr
    have:=ih (h.step hs) hr
    simpa using this
   ·rw [runM_stop _ _ _ hs] at hr
    simp only [Prod.mk.injEq] at hr
    exact absurd hr.2 hs
theorem run_zero_of {l:List (List ByteArray)} {M:Mast} (h:runM zeroM l=(M,0)):Inv l M:=by
 simpa using Inv.zero.run h
end Go.Proofs.YtfhhihamndbcnaaGreatDoor.Un
end
section
namespace Go.Proofs.YtfhhihamndbcnaaGreatDoor.Un
open Go.RowKit
def ones:List ByteArray:=[tGroup,tReserve,tDiffer,tMinor,tStake]
structure Ok (l:List (List ByteArray)):Prop where
 good:∀ ws∈l,Good ws
 ac:((l.filterMap acO).map Acct.code).Nodup
 al:(l.filterMap acO).length≤60
 fc:((l.filterMap flO).map Fl.Flow.code).Nodup
 fk:Fl.onesF (l.filterMap flO)
 fl:(l.filterMap flO).length≤60
 ec:((l.filterMap enO).map Ent.code).Nodup
 el:(l.filterMap enO).length≤60
 lc:((l.filterMap liO).map Lin.key).Nodup
 ll:(l.filterMap liO).length≤1000
 on:∀ t∈ones,(l.filterMap (onO t)).length≤1
theorem riseL_eq:∀ L:List Acct,riseL L=G.riseK Acct.code L
 | []=>rfl
 | [_]=>rfl
 | a::b::L=>by
   have:=riseL_eq (b::L)
   unfold riseL G.riseK
   rw [this];rfl
theorem riseF_eq:∀ L:List Fl.Flow,riseK Fl.Flow.code L=G.riseK Fl.Flow.code L
 | []=>rfl
 | [_]=>rfl
 | a::b::L=>by
   have:=riseF_eq (b::L)
   unfold riseK G.riseK
   rw [this];rfl
theorem findL_none {L:List Acct} {c:ByteArray} (h:c ∉ L.map Acct.code):findL L c=none:=by
 cases hf:findL L c with
 | none=>rfl
 | some x =>
   obtain ⟨h1,h2⟩:=find_mem hf
   exact absurd (List.mem_map.2 ⟨x,h2,h1⟩) h
theorem findL_some {L:List Acct} {x:Acct} (h:x∈L):(findL L x.code).isSome=true:=by
 induction L with
 | nil=>cases h
 | cons a L ih =>
   simp only [findL]
   split
   ·rfl
   ·rename_i hne
    rcases List.mem_cons.1 h with rfl | h
    ·exact absurd rfl hne
    ·exact ih h
theorem findG_none {α κ:Type} [DecidableEq κ] {key:α→κ} {L:List α} {c:κ} (h:c ∉ L.map key):G.findK key L c=none :=
 G.findK_none fun x hx e=>h (List.mem_map.2 ⟨x,hx,e⟩)
theorem findG_some {α κ:Type} [DecidableEq κ] {key:α→κ} {L:List α} {x:α} (h:x∈L):(G.findK key L (key x)).isSome=true:=by
 cases hf:G.findK key L (key x) with
 | some y=>rfl
 | none=>exact absurd rfl (G.findK_no hf x h)
theorem fm_mid {α:Type} {f:List ByteArray→Option α} {l k:List (List ByteArray)} {ws:List ByteArray} {x:α} (h:f ws=some x):(l++ws::k).filterMap f=l.filterMap f++x::k.filterMap f:=by simp [List.filterMap_append,h]
theorem nodup_mid {α β:Type} {f:α→β} {A B:List α} {x:α} (h:((A++x::B).map f).Nodup):f x ∉ A.map f:=by
 rw [List.map_append,List.map_cons] at h
 intro hm
 exact (List.nodup_append.1 h).2.2 _ hm _ (List.mem_cons_self ..) rfl
theorem one_mid {l k:List (List ByteArray)} {ws:List ByteArray} {t x:ByteArray} (hl:l.filterMap (onO t)=oneL x) (hw:wd ws 0=t) (hf:formedW ws=true) (h:((l++ws::k).filterMap (onO t)).length≤1):oneE x=0:=by
 rw [fm_mid (onO_yes hw hf),hl] at h
 unfold oneE
 by_cases hx:x=emp
 ·rw [if_pos hx]
 ·rw [oneL_yes hx] at h;simp at h
theorem step_of_ok {l k:List (List ByteArray)} {M:Mast} {ws:List ByteArray} (h:Inv l M) (ho:Ok (l++ws::k)):stepE M ws=0:=by
 rcases ho.good ws (by simp) with ⟨w0,hp⟩ | ⟨w0,hp⟩ | hf
 ·unfold stepE
  rw [if_pos w0,if_pos hp]
  have hm:=fm_mid (k:=k) (l:=l) (acO_yes w0 hp)
  have h1:=ho.ac
  have h2:=ho.al
  rw [hm] at h1 h2
  have hfn:findL M.chart (parseA ws).1.code=none:=findL_none fun hx=>nodup_mid h1 (((h.chart.map _).mem_iff).1 hx)
  have hlen:¬ 60≤M.chart.length:=by
   rw [h.chart.length_eq]
   simp only [List.length_append,List.length_cons] at h2
   omega
  unfold addE
  rw [(parse_ok hp).2,hfn,if_neg (by simp),if_neg (by simp),if_neg hlen]
 ·unfold stepE
  rw [if_neg (by rw [w0];decide),if_pos w0,if_pos hp]
  have hm:=fm_mid (k:=k) (l:=l) (flO_yes w0 hp)
  have h1:=ho.fc
  have h2:=ho.fl
  have h3:=ho.fk
  rw [hm] at h1 h2 h3
  have hr:Fl.rightF (Fl.parseF ws).1=true:=by
   rcases Fl.parse_err ws with e | ⟨_,e,_⟩
   ·rw [e] at hp;simp at hp
   ·exact e
  have hrise:=Fl.rise_codes h.sane.fl
  have hfn:findK Fl.Flow.code M.flows (Fl.parseF ws).1.code=none:=findK_none fun x hx e=>nodup_mid h1 (((h.flows.map _).mem_iff).1 (List.mem_map.2 ⟨x,hx,e⟩))
  have hk:isK Fl.Flow.code M.flows (Fl.parseF ws).1.code=false:=by rw [(isK_find hrise _).1,hfn];rfl
  have hlen:¬ 60≤M.flows.length:=by
   rw [h.flows.length_eq]
   simp only [List.length_append,List.length_cons] at h2
   omega
  have hkind:(decide ((Fl.parseF ws).1.kind≠1) && Fl.hasF M.flows (Fl.parseF ws).1.kind)=false:=by
   by_cases h1k:(Fl.parseF ws).1.kind=1
   ·simp [h1k]
   ·have hkk:0≤(Fl.parseF ws).1.kind∧(Fl.parseF ws).1.kind < 5:=by
     have:=(Fl.right_parts hr).2
     omega
    have:=h3 _ hkk h1k
    rw [Fl.ofF_length,List.filter_append,List.filter_cons,if_pos (by simp),List.length_append,List.length_cons,←(h.flows.filter _).length_eq,←Fl.ofF_length] at this
    have h0:¬ 0 < (Fl.ofF M.flows (Fl.parseF ws).1.kind).length:=by omega
    unfold Fl.hasF
    rw [decide_eq_false h0,Bool.and_false]
  unfold Fl.addE
  rw [hr,if_neg (by simp),hk,hkind,if_neg (by simp),if_neg hlen]
 ·rcases formed_ways hf with ⟨w0,_⟩ | ⟨w0,_⟩ | ⟨w0,_⟩
  ·unfold stepE
   rw [if_neg (by rw [w0];decide),if_neg (by rw [w0];decide),if_neg (by rw [hf];simp),if_pos w0]
   have hm:=fm_mid (k:=k) (l:=l) (enO_yes w0 hf)
   have h1:=ho.ec
   have h2:=ho.el
   rw [hm] at h1 h2
   have hfn:G.findK Ent.code M.ents (entOf ws).code=none:=findG_none fun hx=>nodup_mid h1 (((h.ents.map _).mem_iff).1 hx)
   have hlen:¬ 60≤M.ents.length:=by
    rw [h.ents.length_eq]
    simp only [List.length_append,List.length_cons] at h2
    omega
   unfold entE
   rw [hfn,if_neg (by simp),if_neg hlen]
  ·unfold stepE
   rw [if_neg (by rw [w0];decide),if_neg (by rw [w0];decide),if_neg (by rw [hf];simp),if_neg (by rw [w0];decide),if_pos w0]
   have hm:=fm_mid (k:=k) (l:=l) (liO_yes w0 hf)
   have h1:=ho.lc
   have h2:=ho.ll
   rw [hm] at h1 h2
   have hfn:G.findK Lin.key M.lines (linOf ws).key=none:=findG_none fun hx=>nodup_mid h1 (((h.lines.map _).mem_iff).1 hx)
   have hlen:¬ 1000≤M.lines.length:=by
    rw [h.lines.length_eq]
    simp only [List.length_append,List.length_cons] at h2
    omega
   unfold linEr
   rw [hfn,if_neg (by simp),if_neg hlen]
  ·unfold stepE
   rcases w0 with w0 | w0 | w0 | w0 | w0
   ·rw [if_neg (by rw [w0];decide),if_neg (by rw [w0];decide),if_neg (by rw [hf];simp),if_neg (by rw [w0];decide),if_neg (by rw [w0];decide),if_pos w0]
    exact one_mid h.cur w0 hf (ho.on tGroup (by simp [ones]))
   ·rw [if_neg (by rw [w0];decide),if_neg (by rw [w0];decide),if_neg (by rw [hf];simp),if_neg (by rw [w0];decide),if_neg (by rw [w0];decide),if_neg (by rw [w0];decide),if_pos w0]
    exact one_mid h.res w0 hf (ho.on tReserve (by simp [ones]))
   ·rw [if_neg (by rw [w0];decide),if_neg (by rw [w0];decide),if_neg (by rw [hf];simp),if_neg (by rw [w0];decide),if_neg (by rw [w0];decide),if_neg (by rw [w0];decide),if_neg (by rw [w0];decide),if_pos w0]
    exact one_mid h.dif w0 hf (ho.on tDiffer (by simp [ones]))
   ·rw [if_neg (by rw [w0];decide),if_neg (by rw [w0];decide),if_neg (by rw [hf];simp),if_neg (by rw [w0];decide),if_neg (by rw [w0];decide),if_neg (by rw [w0];decide),if_neg (by rw [w0];decide),if_neg (by rw [w0];decide),if_pos w0]
    exact one_mid h.min w0 hf (ho.on tMinor (by simp [ones]))
   ·rw [if_neg (by rw [w0];decide),if_neg (by rw [w0];decide),if_neg (by rw [hf];simp),if_neg (by rw [w0];decide),if_neg (by rw [w0];decide),if_neg (by rw [w0];decide),if_neg (by rw [w0];decide),if_neg (by rw [w0];decide),if_neg (by rw [w0];decide)]
    exact one_mid h.stk w0 hf (ho.on tStake (by simp [ones]))
theorem run_of_ok {l k:List (List ByteArray)} {M:Mast} (h:Inv l M) (ho:Ok (l++k)):∃ N,runM M k=(N,0):=by
 induction k generalizing l M with
 | nil=>exact ⟨M,rfl⟩
 | cons ws k ih =>
   have hs:=step_of_ok h ho
   obtain ⟨N,hN⟩:=ih (h.step hs) (by simpa using ho)
   exact ⟨N,by rw [runM_cons _ _ _ hs];exact hN⟩
theorem run_ok {l:List (List ByteArray)} (ho:Ok l):∃ M,runM zeroM l=(M,0)∧Inv l M:=by
 obtain ⟨M,hM⟩:=run_of_ok Inv.zero (by simpa using ho)
 exact ⟨M,hM,run_zero_of hM⟩
end Go.Proofs.YtfhhihamndbcnaaGreatDoor.Un
end
section
namespace Go.Proofs.YtfhhihamndbcnaaGreatDoor.Un
open Go.RowKit
theorem allE_parts {M:Mast} (h:allE M=0):M.cur≠emp∧rolesN M=true∧linesN M=true∧Fl.wholeF M.flows=true∧rolesP M=true:=by
 unfold allE at h
 split at h
 ·simp at h
 ·rename_i h1
  split at h
  ·simp at h
  ·rename_i h2
   split at h
   ·simp at h
   ·rename_i h3
    simp only [Bool.or_eq_true,decide_eq_true_eq,Bool.not_eq_true',not_or,Bool.not_eq_false] at h1
    exact ⟨h1.1.1,h1.1.2,h1.2,by simpa using h2,by simpa using h3⟩
theorem Inv.right {l:List (List ByteArray)} {M:Mast} (h:Inv l M):∀ a∈M.chart,rightA a=true:=fun a ha=>by
 have:=(h.chart.mem_iff).1 ha
 obtain ⟨ws,_,hw⟩:=List.mem_filterMap.1 this
 unfold acO at hw
 split at hw
 ·rename_i h2
  cases hw
  exact (parse_ok h2.2).2
 ·cases hw
theorem Inv.rightF {l:List (List ByteArray)} {M:Mast} (h:Inv l M):∀ a∈M.flows,Fl.rightF a=true:=fun a ha=>by
 have:=(h.flows.mem_iff).1 ha
 obtain ⟨ws,_,hw⟩:=List.mem_filterMap.1 this
 unfold flO at hw
 split at hw
 ·rename_i h2
  cases hw
  rcases Fl.parse_err ws with e | ⟨_,e,_⟩
  ·rw [e] at h2;simp at h2
  ·exact e
 ·cases hw
theorem Inv.no_emp {l:List (List ByteArray)} {M:Mast} (h:Inv l M):hasA M.chart emp=false:=by
 unfold hasA
 rw [findL_none]
 ·rfl
 ·intro hm
  obtain ⟨a,ha,hc⟩:=List.mem_map.1 hm
  exact nm_ne (right_parts (h.right a ha)).1 hc
theorem parse_ways (s:ByteArray):(∃ M,runM zeroM (wordsT s)=(M,0)∧Inv (wordsT s) M∧allE M=0∧parseM s=(M,0)∧linE s.data.toList=0)∨((parseM s).1=zeroM∧(parseM s).2≠0):=by
 unfold parseM
 by_cases h0:linE s.data.toList=0
 ·rw [if_pos h0]
  unfold linesM
  cases hr:runM zeroM (wordsT s) with
  | mk M E =>
    by_cases hE:E=0
    ·subst hE
     by_cases ha:allE M=0
     ·exact .inl ⟨M,rfl,run_zero_of hr,ha,endM_ok M ha,h0⟩
     ·right;rw [endM_no M ha];exact ⟨rfl,ha⟩
    ·right
     unfold endM
     rw [if_neg hE];exact ⟨rfl,hE⟩
 ·rw [if_neg h0];exact .inr ⟨rfl,h0⟩
end Go.Proofs.YtfhhihamndbcnaaGreatDoor.Un
end
section
namespace Go.Proofs.YtfhhihamndbcnaaGreatDoor.Pk
open Go.RowKit Go.Proofs.YtfhhihamndbcnaaGreatDoor.Un Go.Proofs.YtfhhihamndbcnaaGreatDoor.Fa
def tPackage:ByteArray:=⟨#[112,97,99,107,97,103,101]⟩
def tJournal:ByteArray:=⟨#[106,111,117,114,110,97,108]⟩
def tFact:ByteArray:=⟨#[102,97,99,116]⟩
def tDash:ByteArray:=⟨#[45]⟩
def hasE (M:Mast) (c:ByteArray):Bool:=(G.findK Ent.code M.ents c).isSome
def hasFl (M:Mast) (c:ByteArray):Bool:=(Fl.findF M.flows c).isSome
def mutA (M:Mast) (c:ByteArray):Bool:=((findL M.chart c).getD zeroA).both
def kindF (M:Mast) (c:ByteArray):Int:=((Fl.findF M.flows c).getD Fl.zeroF).kind
def isP (k:Key):Bool:=decide (k.p≠emp)
def inM (M:Mast) (k:Key):Bool:=hasE M k.e && hasA M.chart k.a && hasFl M k.f && (!isP k || hasE M k.p)
def checkE (M:Mast) (k:Key):Int :=
 if inM M k=false then 6
 else if (isP k && decide (k.p=k.e))=true then 1
 else if isP k≠mutA M k.a then 15
 else if kindF M k.f=2 then 8 else 0
structure St where
 ent:ByteArray
 mrk:Int
 had:List ByteArray
 facts:List Fact
def st0:St:=⟨emp,0,[],[]⟩
def begE (M:Mast) (c:ByteArray):Int:=if nmB c=false then 5 else if hasE M c=false then 6 else 0
def parB (x:ByteArray):ByteArray:=if x=tDash then emp else x
def keyF (S:St) (ws:List ByteArray):Key:=⟨S.ent,wd ws 1,wd ws 2,parB (wd ws 3),S.mrk⟩
def namedK (k:Key):Bool:=nmB k.a && nmB k.f && (!isP k || nmB k.p)
def factE (M:Mast) (S:St) (ws:List ByteArray):Int :=
 if (decide (S.ent=emp) || !namedK (keyF S ws))=true then 5
 else if parseE (wd ws 4).data.toList=0 then checkE M (keyF S ws) else parseE (wd ws 4).data.toList
def factV (S:St) (ws:List ByteArray):Fact:=⟨keyF S ws,parseV (wd ws 4).data.toList⟩
def hadB (l:List ByteArray) (c:ByteArray):Bool:=l.any fun x=>decide (x=c)
theorem hadB_iff {l:List ByteArray} {c:ByteArray}:hadB l c=true ↔ c∈l:=by
 unfold hadB
 rw [List.any_eq_true]
 exact ⟨fun ⟨x,hx,e⟩=>by rw [←of_decide_eq_true e];exact hx,fun h=>⟨c,h,decide_eq_true rfl⟩⟩
theorem hadB_no {l:List ByteArray} {c:ByteArray}:hadB l c=false ↔ c ∉ l:=by
 rw [←hadB_iff,Bool.not_eq_true]
def lineE (M:Mast) (S:St) (ws:List ByteArray):Int :=
 if wd ws 0=tPackage then (if ws.length=2 then (if begE M (wd ws 1)=0 then (if hadB S.had (wd ws 1)=true then 7 else 0) else begE M (wd ws 1)) else 5)
 else if wd ws 0=tJournal then (if ws.length=2 then begE M (wd ws 1) else 5)
 else if wd ws 0=tFact then (if ws.length=5 then factE M S ws else 5)
 else 5
def lineV (S:St) (ws:List ByteArray):St :=
 if wd ws 0=tPackage then ⟨wd ws 1,0,S.had++[wd ws 1],S.facts⟩
 else if wd ws 0=tJournal then ⟨wd ws 1,1,S.had,S.facts⟩
 else ⟨S.ent,S.mrk,S.had,S.facts++[factV S ws]⟩
def runP (M:Mast):St→List (List ByteArray)→St × Int
 | S,[]=>(S,0)
 | S,ws::r=>if lineE M S ws=0 then runP M (lineV S ws) r else (st0,lineE M S ws)
def endP (r:St × Int):List Fact × Int:=if r.2=0 then ofL r.1.facts else ([],r.2)
def parseP (M:Mast) (s:ByteArray):List Fact × Int:=if linE s.data.toList=0 then endP (runP M st0 (wordsT s)) else ([],linE s.data.toList)
theorem runP_cons {M:Mast} {S:St} {ws:List ByteArray} (r:List (List ByteArray)) (h:lineE M S ws=0):runP M S (ws::r)=runP M (lineV S ws) r:=by simp [runP,h]
theorem runP_stop {M:Mast} {S:St} {ws:List ByteArray} (r:List (List ByteArray)) (h:lineE M S ws≠0):runP M S (ws::r)=(st0,lineE M S ws):=by simp [runP,h]
theorem endP_ok (S:St):endP (S,0)=ofL S.facts:=by simp [endP]
theorem endP_no (S:St) {n:Int} (h:n≠0):endP (S,n)=([],n):=by simp [endP,h]
theorem tP_J:tPackage≠tJournal:=by decide
theorem tP_F:tPackage≠tFact:=by decide
theorem tJ_F:tJournal≠tFact:=by decide
theorem begE_zero {M:Mast} {c:ByteArray}:begE M c=0 ↔ nmB c=true∧hasE M c=true:=by
 unfold begE
 cases nmB c <;> cases hasE M c <;> simp
theorem line_ways {M:Mast} {S:St} {ws:List ByteArray} (h:lineE M S ws=0) :
 (wd ws 0=tPackage∧ws.length=2∧begE M (wd ws 1)=0∧wd ws 1 ∉ S.had∧lineV S ws=⟨wd ws 1,0,S.had++[wd ws 1],S.facts⟩) ∨
 (wd ws 0=tJournal∧ws.length=2∧begE M (wd ws 1)=0∧lineV S ws=⟨wd ws 1,1,S.had,S.facts⟩) ∨
 (wd ws 0=tFact∧ws.length=5∧factE M S ws=0∧lineV S ws=⟨S.ent,S.mrk,S.had,S.facts++[factV S ws]⟩):=by
 unfold lineE at h
 by_cases h1:wd ws 0=tPackage
 ·rw [if_pos h1] at h
  by_cases h2:ws.length=2
  ·rw [if_pos h2] at h
   by_cases h3:begE M (wd ws 1)=0
   ·rw [if_pos h3] at h
    by_cases h4:hadB S.had (wd ws 1)=true
    ·rw [if_pos h4] at h;cases h
    ·exact .inl ⟨h1,h2,h3,hadB_no.1 (by simpa using h4),by unfold lineV;rw [if_pos h1]⟩
   ·rw [if_neg h3] at h;exact absurd h h3
  ·rw [if_neg h2] at h;cases h
 rw [if_neg h1] at h
 by_cases h2:wd ws 0=tJournal
 ·rw [if_pos h2] at h
  by_cases h3:ws.length=2
  ·rw [if_pos h3] at h
   exact .inr (.inl ⟨h2,h3,h,by unfold lineV;rw [if_neg h1,if_pos h2]⟩)
  ·rw [if_neg h3] at h;cases h
 rw [if_neg h2] at h
 by_cases h3:wd ws 0=tFact
 ·rw [if_pos h3] at h
  by_cases h4:ws.length=5
  ·rw [if_pos h4] at h
   exact .inr (.inr ⟨h3,h4,h,by unfold lineV;rw [if_neg h1,if_neg h2]⟩)
  ·rw [if_neg h4] at h;cases h
 ·rw [if_neg h3] at h;cases h
theorem factE_zero {M:Mast} {S:St} {ws:List ByteArray} (h:factE M S ws=0):S.ent≠emp∧namedK (keyF S ws)=true∧parseE (wd ws 4).data.toList=0∧checkE M (keyF S ws)=0:=by
 unfold factE at h
 by_cases h1:(decide (S.ent=emp) || !namedK (keyF S ws))=true
 ·rw [if_pos h1] at h;cases h
 rw [if_neg h1] at h
 rw [Bool.not_eq_true,Bool.or_eq_false_iff] at h1
 by_cases h2:parseE (wd ws 4).data.toList=0
 ·rw [if_pos h2] at h
  exact ⟨of_decide_eq_false h1.1,by simpa using h1.2,h2,h⟩
 ·rw [if_neg h2] at h;exact absurd h h2
theorem in64_parseV (l:List UInt8):In64 (parseV l):=by
 have:=fit_parseV l
 unfold fit at this
 simp only [Bool.and_eq_true,decide_eq_true_eq] at this
 exact this
structure Had (M:Mast) (S:St):Prop where
 mrk:S.mrk=0∨S.mrk=1
 ok:∀ f∈S.facts,In64 f.amt∧checkE M f.key=0∧(f.key.m=0∨f.key.m=1)
theorem Had.zero (M:Mast):Had M st0:=⟨.inl rfl,fun _ h=>by cases h⟩
theorem Had.step {M:Mast} {S:St} {ws:List ByteArray} (h:Had M S) (he:lineE M S ws=0):Had M (lineV S ws):=by
 rcases line_ways he with ⟨_,_,_,_,e⟩ | ⟨_,_,_,e⟩ | ⟨_,_,hf,e⟩ <;> rw [e]
 ·exact ⟨.inl rfl,h.ok⟩
 ·exact ⟨.inr rfl,h.ok⟩
 ·obtain ⟨_,_,_,h4⟩:=factE_zero hf
  refine ⟨h.mrk,fun f hf=>?_⟩
  rcases List.mem_append.1 hf with hf | hf
  ·exact h.ok f hf
  ·rw [List.mem_singleton.1 hf]
   exact ⟨in64_parseV _,h4,h.mrk⟩
theorem Had.run {M:Mast}:∀ (l:List (List ByteArray)) {S T:St},Had M S→runP M S l=(T,0)→Had M T
 | [],S,T,h,e=>by
   simp only [runP,Prod.mk.injEq] at e
   rw [←e.1];exact h
 | ws::r,S,T,h,e=>by
   by_cases he:lineE M S ws=0
   ·rw [runP_cons r he] at e
    exact Had.run r (h.step he) e
   ·rw [runP_stop r he] at e
    exact absurd (Prod.mk.inj e).2 he
theorem szW_le:∀ (ws:List ByteArray),ws≠[]→(∀ x∈ws,0 < x.size)→2 * ws.length≤szW ws
 | [],h,_=>absurd rfl h
 | [x],_,hx=>by
   have:=hx x (List.mem_cons_self ..)
   unfold szW
   rw [lineL_one,size_list]
   simp;omega
 | x::y::r,_,hx=>by
   have h1:=hx x (List.mem_cons_self ..)
   have ih:=szW_le (y::r) (by simp) (fun z hz=>hx z (List.mem_cons_of_mem _ hz))
   unfold szW at ih ⊢
   rw [lineL_two]
   simp only [List.length_append,List.length_cons,List.length_nil,size_list] at ih ⊢
   omega
theorem right_sizes {ws:List ByteArray} (h:rightW ws):2 * ws.length≤szW ws:=szW_le ws h.1 fun x hx=>by
 have:=h.2 x hx
 rw [←size_list]
 cases hl:x.data.toList with
 | nil=>rw [hl] at this;cases this
 | cons a b=>simp
theorem facts_few {M:Mast}:∀ (l:List (List ByteArray)) {S T:St},(∀ ws∈l,rightW ws)→runP M S l=(T,0)→T.facts.length * 10≤S.facts.length * 10+szL l
 | [],S,T,_,e=>by
   simp only [runP,Prod.mk.injEq] at e
   rw [←e.1];simp [szL]
 | ws::r,S,T,hl,e=>by
   have hs:szL (ws::r)=szW ws+szL r:=by simp [szL]
   by_cases he:lineE M S ws=0
   ·rw [runP_cons r he] at e
    have ih:=facts_few r (fun x hx=>hl x (List.mem_cons_of_mem _ hx)) e
    have h2:=right_sizes (hl ws (List.mem_cons_self ..))
    rcases line_ways he with ⟨_,_,_,_,e'⟩ | ⟨_,_,_,e'⟩ | ⟨_,h5,hf,e'⟩ <;> rw [e'] at ih
    ·dsimp only at ih;omega
    ·dsimp only at ih;omega
    ·rw [List.length_append,List.length_singleton] at ih
     omega
   ·rw [runP_stop r he] at e
    exact absurd (Prod.mk.inj e).2 he
theorem text_few {M:Mast} {s:ByteArray} {T:St} (h:runP M st0 (wordsT s)=(T,0)):T.facts.length * 10≤s.size+1:=by
 have:=facts_few _ (text_right s) h
 have h2:=text_size s
 rw [show st0.facts=[] from rfl] at this
 simp only [List.length_nil] at this
 omega
end Go.Proofs.YtfhhihamndbcnaaGreatDoor.Pk
end
