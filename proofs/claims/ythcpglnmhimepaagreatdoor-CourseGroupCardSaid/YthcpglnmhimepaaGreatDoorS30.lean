/- UnitOk ChartSame UnitCheck UnitReadF UnitKeyOf UnitKeepS UnitCheckL UnitCheckA LexCut LexIter LexLines CsAgainst PkCheck FlowDocKind UnitDocBits ChartDocFind UnitOurs FlowOurs -/
import Derived.Laws.StructEq
import Derived.LoopIn
import Derived.LoopNIn
import Derived.OwnWalkIn
import Derived.RangeFuncBound
import Derived.RangeFuncCalls
import Derived.RangeFuncLeaves
import Derived.RangeFuncNested
import Derived.Shelf.Abstract
import Derived.Shelf.RegionOpen
import Derived.TacticsInMore
import Derived.Test.YthcpglnmhimepaaGreatDoorS23
import Derived.Test.YthcpglnmhimepaaGreatDoorS24
import Derived.Test.YthcpglnmhimepaaGreatDoorS26
import Derived.Test.YthcpglnmhimepaaGreatDoorS27
section
namespace Go.Proofs.YthcpglnmhimepaaGreatDoor.Un
open Go.RowKit
def ones:List ByteArray:=[tGroup,tReserve,tDiffer,tMinor,tStake]
structure Ok (l:List (List ByteArray)):Prop where
 good:∀ ws∈l,Good ws
 ac:((l.filterMap acO).map Acct.code).Nodup
 al:(l.filterMap acO).length≤60
 fc:((l.filterMap flO).map Fl.Flow.code).Nodup
 fk:Fl.onesF (l.filterMap flO)
 fl:(l.filterMap flO).length≤60
 ec:((l.filterMap enO).map Ent.code).Nodup
 el:(l.filterMap enO).length≤60
 lc:((l.filterMap liO).map Lin.key).Nodup
 ll:(l.filterMap liO).length≤1000
 on:∀ t∈ones,(l.filterMap (onO t)).length≤1
theorem riseL_eq:∀ L:List Acct,riseL L=G.riseK Acct.code L
 | []=>rfl
 | [_]=>rfl
 | a::b::L=>by
   have:=riseL_eq (b::L)
   unfold riseL G.riseK
   rw [this];rfl
theorem riseF_eq:∀ L:List Fl.Flow,riseK Fl.Flow.code L=G.riseK Fl.Flow.code L
 | []=>rfl
 | [_]=>rfl
 | a::b::L=>by
   have:=riseF_eq (b::L)
   unfold riseK G.riseK
   rw [this];rfl
theorem findL_none {L:List Acct} {c:ByteArray} (h:c ∉ L.map Acct.code):findL L c=none:=by
 cases hf:findL L c with
 | none=>rfl
 | some x =>
   obtain ⟨h1,h2⟩:=find_mem hf
   exact absurd (List.mem_map.2 ⟨x,h2,h1⟩) h
theorem findL_some {L:List Acct} {x:Acct} (h:x∈L):(findL L x.code).isSome=true:=by
 induction L with
 | nil=>cases h
 | cons a L ih =>
   simp only [findL]
   split
   ·rfl
   ·rename_i hne
    rcases List.mem_cons.1 h with rfl | h
    ·exact absurd rfl hne
    ·exact ih h
theorem findG_none {α κ:Type} [DecidableEq κ] {key:α→κ} {L:List α} {c:κ} (h:c ∉ L.map key):G.findK key L c=none :=
 G.findK_none fun x hx e=>h (List.mem_map.2 ⟨x,hx,e⟩)
theorem findG_some {α κ:Type} [DecidableEq κ] {key:α→κ} {L:List α} {x:α} (h:x∈L):(G.findK key L (key x)).isSome=true:=by
 cases hf:G.findK key L (key x) with
 | some y=>rfl
 | none=>exact absurd rfl (G.findK_no hf x h)
theorem fm_mid {α:Type} {f:List ByteArray→Option α} {l k:List (List ByteArray)} {ws:List ByteArray} {x:α} (h:f ws=some x):(l++ws::k).filterMap f=l.filterMap f++x::k.filterMap f:=by simp [List.filterMap_append,h]
theorem nodup_mid {α β:Type} {f:α→β} {A B:List α} {x:α} (h:((A++x::B).map f).Nodup):f x ∉ A.map f:=by
 rw [List.map_append,List.map_cons] at h
 intro hm
 exact (List.nodup_append.1 h).2.2 _ hm _ (List.mem_cons_self ..) rfl
theorem one_mid {l k:List (List ByteArray)} {ws:List ByteArray} {t x:ByteArray} (hl:l.filterMap (onO t)=oneL x) (hw:wd ws 0=t) (hf:formedW ws=true) (h:((l++ws::k).filterMap (onO t)).length≤1):oneE x=0:=by
 rw [fm_mid (onO_yes hw hf),hl] at h
 unfold oneE
 by_cases hx:x=emp
 ·rw [if_pos hx]
 ·rw [oneL_yes hx] at h;simp at h
theorem step_of_ok {l k:List (List ByteArray)} {M:Mast} {ws:List ByteArray} (h:Inv l M) (ho:Ok (l++ws::k)):stepE M ws=0:=by
 rcases ho.good ws (by simp) with ⟨w0,hp⟩ | ⟨w0,hp⟩ | hf
 ·unfold stepE
  rw [if_pos w0,if_pos hp]
  have hm:=fm_mid (k:=k) (l:=l) (acO_yes w0 hp)
  have h1:=ho.ac
  have h2:=ho.al
  rw [hm] at h1 h2
  have hfn:findL M.chart (parseA ws).1.code=none:=findL_none fun hx=>nodup_mid h1 (((h.chart.map _).mem_iff).1 hx)
  have hlen:¬ 60≤M.chart.length:=by
   rw [h.chart.length_eq]
   simp only [List.length_append,List.length_cons] at h2
   omega
  unfold addE
  rw [(parse_ok hp).2,hfn,if_neg (by simp),if_neg (by simp),if_neg hlen]
 ·unfold stepE
  rw [if_neg (by rw [w0];decide),if_pos w0,if_pos hp]
  have hm:=fm_mid (k:=k) (l:=l) (flO_yes w0 hp)
  have h1:=ho.fc
  have h2:=ho.fl
  have h3:=ho.fk
  rw [hm] at h1 h2 h3
  have hr:Fl.rightF (Fl.parseF ws).1=true:=by
   rcases Fl.parse_err ws with e | ⟨_,e,_⟩
   ·rw [e] at hp;simp at hp
   ·exact e
  have hrise:=Fl.rise_codes h.sane.fl
  have hfn:findK Fl.Flow.code M.flows (Fl.parseF ws).1.code=none:=findK_none fun x hx e=>nodup_mid h1 (((h.flows.map _).mem_iff).1 (List.mem_map.2 ⟨x,hx,e⟩))
  have hk:isK Fl.Flow.code M.flows (Fl.parseF ws).1.code=false:=by rw [(isK_find hrise _).1,hfn];rfl
  have hlen:¬ 60≤M.flows.length:=by
   rw [h.flows.length_eq]
   simp only [List.length_append,List.length_cons] at h2
   omega
  have hkind:(decide ((Fl.parseF ws).1.kind≠1) && Fl.hasF M.flows (Fl.parseF ws).1.kind)=false:=by
   by_cases h1k:(Fl.parseF ws).1.kind=1
   ·simp [h1k]
   ·have hkk:0≤(Fl.parseF ws).1.kind∧(Fl.parseF ws).1.kind < 5:=by
     have:=(Fl.right_parts hr).2
     omega
    have:=h3 _ hkk h1k
    rw [Fl.ofF_length,List.filter_append,List.filter_cons,if_pos (by simp),List.length_append,List.length_cons,←(h.flows.filter _).length_eq,←Fl.ofF_length] at this
    have h0:¬ 0 < (Fl.ofF M.flows (Fl.parseF ws).1.kind).length:=by omega
    unfold Fl.hasF
    rw [decide_eq_false h0,Bool.and_false]
  unfold Fl.addE
  rw [hr,if_neg (by simp),hk,hkind,if_neg (by simp),if_neg hlen]
 ·rcases formed_ways hf with ⟨w0,_⟩ | ⟨w0,_⟩ | ⟨w0,_⟩
  ·unfold stepE
   rw [if_neg (by rw [w0];decide),if_neg (by rw [w0];decide),if_neg (by rw [hf];simp),if_pos w0]
   have hm:=fm_mid (k:=k) (l:=l) (enO_yes w0 hf)
   have h1:=ho.ec
   have h2:=ho.el
   rw [hm] at h1 h2
   have hfn:G.findK Ent.code M.ents (entOf ws).code=none:=findG_none fun hx=>nodup_mid h1 (((h.ents.map _).mem_iff).1 hx)
   have hlen:¬ 60≤M.ents.length:=by
    rw [h.ents.length_eq]
    simp only [List.length_append,List.length_cons] at h2
    omega
   unfold entE
   rw [hfn,if_neg (by simp),if_neg hlen]
  ·unfold stepE
   rw [if_neg (by rw [w0];decide),if_neg (by rw [w0];decide),if_neg (by rw [hf];simp),if_neg (by rw [w0];decide),if_pos w0]
   have hm:=fm_mid (k:=k) (l:=l) (liO_yes w0 hf)
   have h1:=ho.lc
   have h2:=ho.ll
   rw [hm] at h1 h2
   have hfn:G.findK Lin.key M.lines (linOf ws).key=none:=findG_none fun hx=>nodup_mid h1 (((h.lines.map _).mem_iff).1 hx)
   have hlen:¬ 1000≤M.lines.length:=by
    rw [h.lines.length_eq]
    simp only [List.length_append,List.length_cons] at h2
    omega
   unfold linEr
   rw [hfn,if_neg (by simp),if_neg hlen]
  ·unfold stepE
   rcases w0 with w0 | w0 | w0 | w0 | w0
   ·rw [if_neg (by rw [w0];decide),if_neg (by rw [w0];decide),if_neg (by rw [hf];simp),if_neg (by rw [w0];decide),if_neg (by rw [w0];decide),if_pos w0]
    exact one_mid h.cur w0 hf (ho.on tGroup (by simp [ones]))
   ·rw [if_neg (by rw [w0];decide),if_neg (by rw [w0];decide),if_neg (by rw [hf];simp),if_neg (by rw [w0];decide),if_neg (by rw [w0];decide),if_neg (by rw [w0];decide),if_pos w0]
    exact one_mid h.res w0 hf (ho.on tReserve (by simp [ones]))
   ·rw [if_neg (by rw [w0];decide),if_neg (by rw [w0];decide),if_neg (by rw [hf];simp),if_neg (by rw [w0];decide),if_neg (by rw [w0];decide),if_neg (by rw [w0];decide),if_neg (by rw [w0];decide),if_pos w0]
    exact one_mid h.dif w0 hf (ho.on tDiffer (by simp [ones]))
   ·rw [if_neg (by rw [w0];decide),if_neg (by rw [w0];decide),if_neg (by rw [hf];simp),if_neg (by rw [w0];decide),if_neg (by rw [w0];decide),if_neg (by rw [w0];decide),if_neg (by rw [w0];decide),if_neg (by rw [w0];decide),if_pos w0]
    exact one_mid h.min w0 hf (ho.on tMinor (by simp [ones]))
   ·rw [if_neg (by rw [w0];decide),if_neg (by rw [w0];decide),if_neg (by rw [hf];simp),if_neg (by rw [w0];decide),if_neg (by rw [w0];decide),if_neg (by rw [w0];decide),if_neg (by rw [w0];decide),if_neg (by rw [w0];decide),if_neg (by rw [w0];decide)]
    exact one_mid h.stk w0 hf (ho.on tStake (by simp [ones]))
theorem run_of_ok {l k:List (List ByteArray)} {M:Mast} (h:Inv l M) (ho:Ok (l++k)):∃ N,runM M k=(N,0):=by
 induction k generalizing l M with
 | nil=>exact ⟨M,rfl⟩
 | cons ws k ih =>
   have hs:=step_of_ok h ho
   obtain ⟨N,hN⟩:=ih (h.step hs) (by simpa using ho)
   exact ⟨N,by rw [runM_cons _ _ _ hs];exact hN⟩
theorem run_ok {l:List (List ByteArray)} (ho:Ok l):∃ M,runM zeroM l=(M,0)∧Inv l M:=by
 obtain ⟨M,hM⟩:=run_of_ok Inv.zero (by simpa using ho)
 exact ⟨M,hM,run_zero_of hM⟩
end Go.Proofs.YthcpglnmhimepaaGreatDoor.Un
end
section
namespace Go.Proofs.YthcpglnmhimepaaGreatDoor
open Go.RowKit
def eqA (a b:Acct):Bool:=decide (a=b)
def eqFs (a b:Acct):Bool:=a.code.toList==b.code.toList && (a.cls==b.cls && (a.cash==b.cash && (a.both==b.both && (a.fixed.toList==b.fixed.toList && a.worn==b.worn))))
theorem eqFs_eq (a b:Acct):eqFs a b=eqA a b:=by
 unfold eqFs eqA
 rw [Bool.eq_iff_iff]
 simp only [Bool.and_eq_true,beq_iff_eq,decide_eq_true_eq]
 constructor
 ·rintro ⟨h0,h1,h2,h3,h4,h5⟩
  exact Acct.ext' (toList_inj h0) h1 h2 h3 (toList_inj h4) h5
 ·rintro rfl;exact ⟨rfl,rfl,rfl,rfl,rfl,rfl⟩
theorem neq_acc (a b:Acct) (w:World):Sem.run Tryz.prog (binOp .neq 192 (aggF a) (aggF b)) w=.ok (.bool (!eqA a b)) w:=by
 have hS:Tryz.prog.underlying 192=some (.struct (Tryz.prog.fieldsOf 192)):=by kernel_rfl
 have hp:Tryz.prog.stoodInHeld 192=false:=by kernel_rfl
 rw [run_neq_struct,show (10000:Nat)=9999+1 from rfl,run_equalIn_agg w 9999 192 _ _ hS hp,←eqFs_eq]
 simp only [Program.fieldsOf,Tryz.underlying192]
 go_simp
 unfold eqFs
 by_cases h0:a.code.toList=b.code.toList
 ·by_cases h1:a.cls=b.cls
  ·by_cases h2:a.cash=b.cash
   ·by_cases h3:a.both=b.both
    ·by_cases h4:a.fixed.toList=b.fixed.toList
     ·by_cases h5:a.worn=b.worn <;> simp [h0,h1,h2,h3,h4,h5]
     ·simp [h0,h1,h2,h3,h4]
    ·simp [h0,h1,h2,h3]
   ·simp [h0,h1,h2]
  ·simp [h0,h1]
 ·simp [h0]
theorem guard_acc:Tryz.prog.eqGuardType Tryz.prog.depth 192=false:=by kernel_rfl
end Go.Proofs.YthcpglnmhimepaaGreatDoor
end
section
namespace Go.Proofs.YthcpglnmhimepaaGreatDoor.Un
open Go.RowKit
abbrev cellsR (r:Role):Array Value:=#[.string r.head,.string r.code,.int .i64 r.cls]
theorem all_no {α:Type} {p:α→Bool} {L:List α} {i:Nat} {x:α} (hx:L[i]?=some x) (h:p x=false):L.all p=false:=by
 rw [←Bool.not_eq_true,List.all_eq_true]
 intro h'
 rw [h' x (List.mem_of_getElem? hx)] at h;cases h
theorem all_yes {α:Type} {p:α→Bool} {L:List α} (h:∀ (i:Nat) (x:α),L[i]?=some x→p x=true):L.all p=true:=by
 rw [List.all_eq_true]
 intro x hx
 obtain ⟨i,hi,e⟩:=List.getElem_of_mem hx
 exact h i x (by rw [List.getElem?_eq_getElem hi,e])
structure SoFar {α:Type} (p:α→Bool) (L:List α) (i:Nat):Prop where
 all:∀ (j:Nat) (x:α),j < i→L[j]?=some x→p x=true
theorem SoFar.zero {α:Type} (p:α→Bool) (L:List α):SoFar p L 0:=⟨fun _ _ h=>absurd h (Nat.not_lt_zero _)⟩
theorem SoFar.next {α:Type} {p:α→Bool} {L:List α} {i:Nat} {x:α} (h:SoFar p L i) (hx:L[i]?=some x) (hp:p x=true):SoFar p L (i+1) :=
 ⟨fun j y hj hy=>by
  rcases Nat.lt_or_ge j i with h' | h'
  ·exact h.all j y h' hy
  ·obtain rfl:j=i:=by omega
   rw [hx] at hy;cases hy;exact hp⟩
theorem SoFar.done {α:Type} {p:α→Bool} {L:List α} {n:Nat} (h:SoFar p L n) (hn:L.length≤n):L.all p=true :=
 all_yes fun i x hx=>h.all i x (by have:=(List.getElem?_eq_some_iff.1 hx).1;omega) hx
set_option maxRecDepth 100000 in
set_option maxHeartbeats 4000000 in
theorem rolesNamed_any (c f e l:Value) (M:Mast) (w:World) (h:MastIn w c f e l M) :
 Calls Tryz.prog 70 #[aggM c f e l M] w fun en w'=>en=.returned (.bool (rolesN M))∧Below w.heap.size w w':=by
 have HB0:=Lib.hid ((Below.refl w.heap.size w).alloc (Nat.le_refl _) (.cells (cellsM c f e l M) 30))
 have HN0:=Lib.hid (nine_new w c f e l M 30)
 have HC0:=Lib.hid (h.chart.keep HB0.out)
 have HRA:=Lib.hid (roles_any c f e l M)
 obtain ⟨r,hr⟩:∃ r,rolesN M=r:=⟨_,rfl⟩
 have HR:Hid ((rolesOf M).all (fun r=>hasA M.chart r.code)=r):=Lib.hid (by rw [rolesN_all];exact hr)
 rw [hr]
 clear hr h
 obtain ⟨c0,c1,c2,c3,c4,c5,c6,c7,c8⟩:=HN0.out
 go_enter Tryz.func70,Tryz.ntmps70
 go_wp2_with fail
 refine (HRA.out _).mono ?_
 rintro en w1 ⟨g,rfl,hrv,hb1⟩
 have HN1:=Lib.hid (HN0.out.kept hb1)
 have HC1:=Lib.hid (HC0.out.keep hb1)
 have HB1:=Lib.hid (HB0.out.trans (hb1.mono HB0.out.size))
 obtain ⟨p,cp,e1,_,_,_,hc⟩:=hrv
 cases e1
 have HRV:=Lib.hid hc
 clear hc hb1 c0 c1 c2 c3 c4 c5 c6 c7 c8
 go_wp2
 go_loopw [10] (fun s10 wr=>∃ i:Nat,i≤4∧s10=.int .i64 (i:Int)∧Hid (Below w1.heap.size w1 wr)∧Hid (SoFar (fun r:Role=>hasA M.chart r.code) (rolesOf M) i)) (fun s10 _=>4 - (intOf s10).toNat)
 case atStart=>exact ⟨0,by omega,rfl,Lib.hid (Below.refl _ _),Lib.hid (SoFar.zero _ _)⟩
 case round =>
  obtain ⟨i,hi,rfl,HBR,HSF⟩:=hrel
  by_cases hlt:i < 4
  ·obtain ⟨x,hx⟩:∃ x,(rolesOf M)[i]?=some x:=⟨_,List.getElem?_eq_getElem (by simp [rolesOf];omega)⟩
   obtain ⟨b,o,e2,hat⟩:=HRV.out i x hx
   cases e2
   obtain ⟨d0,d1,d2⟩:=role3 (hat.keep HBR.out hat.lt)
   have hbx:=HBR.out.alloc HBR.out.size (.cells (cellsR x) 217)
   have HBX:=Lib.hid hbx
   have HC2:=Lib.hid (HC1.out.keep hbx)
   obtain ⟨k0,k1,k2,k3,k4,k5,k6,k7,k8⟩:=HN1.out.kept hbx
   obtain ⟨q0,q1,q2⟩:=role3 (BoxE.new encR wr x 217).at0
   have HX:=Lib.hid hx
   clear hat hx hbx
   simp only [Nat.zero_add] at d0 d1 d2
   go_wp2_with fail
   clear k0 k1 k2 k3 k4 k5 k6 k7 k8 q0 q1 q2 d0 d1 d2
   refine (find_any _ M.chart x.code _ HC2.out).mono ?_
   rintro en w3 ⟨rfl,hb3⟩
   obtain ⟨fa,hfa⟩:∃ fa,findV (findL M.chart x.code)=fa:=⟨_,rfl⟩
   obtain ⟨s,hs⟩:∃ s,(findL M.chart x.code).isSome=s:=⟨_,rfl⟩
   rw [hfa,hs]
   have HSV:Hid (hasA M.chart x.code=s):=Lib.hid hs
   have HB4:=Lib.hid ((HBX.out.trans (hb3.mono HBX.out.size)).alloc (Nat.le_trans HBX.out.size hb3.size) (.cells #[.string fa.code,.int .i64 fa.cls,.bool fa.cash,.bool fa.both,.string fa.fixed,.bool fa.worn] 192))
   clear hs hfa hb3
   cases s with
   | false =>
     have HRF:Hid (r=false):=Lib.hid (by rw [←HR.out];exact all_no HX.out HSV.out)
     go_wp2
     go_ret
     exact ⟨by rw [HRF.out];rfl,HB1.out.trans (HB4.out.mono HB1.out.size)⟩
   | true =>
     have HSN:=Lib.hid (HSF.out.next HX.out HSV.out)
     go_wp2
     go_roundw
     case rel=>exact ⟨i+1,by omega,by go_num,HB4,HSN⟩
     case measure=>simp [intOf];omega
  ·have HRT:Hid (r=true):=Lib.hid (by rw [←HR.out];exact HSF.out.done (by simp [rolesOf];omega))
   go_wp2
   go_ret
   exact ⟨by rw [HRT.out];rfl,HB1.out.trans (HBR.out.mono HB1.out.size)⟩
set_option maxRecDepth 100000 in
set_option maxHeartbeats 4000000 in
theorem rolesPlain_any (c f e l:Value) (M:Mast) (w:World) (h:MastIn w c f e l M) :
 Calls Tryz.prog 73 #[aggM c f e l M] w fun en w'=>en=.returned (.bool (rolesP M))∧Below w.heap.size w w':=by
 have HB0:=Lib.hid ((Below.refl w.heap.size w).alloc (Nat.le_refl _) (.cells (cellsM c f e l M) 30))
 have HN0:=Lib.hid (nine_new w c f e l M 30)
 have HC0:=Lib.hid (h.chart.keep HB0.out)
 have HRA:=Lib.hid (roles_any c f e l M)
 obtain ⟨r,hr⟩:∃ r,rolesP M=r:=⟨_,rfl⟩
 have HR:Hid ((rolesOf M).all (fun r=>plainA M.chart r.code r.cls)=r):=Lib.hid (by rw [rolesP_all];exact hr)
 rw [hr]
 clear hr h
 obtain ⟨c0,c1,c2,c3,c4,c5,c6,c7,c8⟩:=HN0.out
 go_enter Tryz.func73,Tryz.ntmps73
 go_wp2_with fail
 refine (HRA.out _).mono ?_
 rintro en w1 ⟨g,rfl,hrv,hb1⟩
 have HN1:=Lib.hid (HN0.out.kept hb1)
 have HC1:=Lib.hid (HC0.out.keep hb1)
 have HB1:=Lib.hid (HB0.out.trans (hb1.mono HB0.out.size))
 obtain ⟨p,cp,e1,_,_,_,hc⟩:=hrv
 cases e1
 have HRV:=Lib.hid hc
 clear hc hb1 c0 c1 c2 c3 c4 c5 c6 c7 c8
 go_wp2
 go_loopw [10] (fun s10 wr=>∃ i:Nat,i≤4∧s10=.int .i64 (i:Int)∧Hid (Below w1.heap.size w1 wr)∧Hid (SoFar (fun r:Role=>plainA M.chart r.code r.cls) (rolesOf M) i)) (fun s10 _=>4 - (intOf s10).toNat)
 case atStart=>exact ⟨0,by omega,rfl,Lib.hid (Below.refl _ _),Lib.hid (SoFar.zero _ _)⟩
 case round =>
  obtain ⟨i,hi,rfl,HBR,HSF⟩:=hrel
  by_cases hlt:i < 4
  ·obtain ⟨x,hx⟩:∃ x,(rolesOf M)[i]?=some x:=⟨_,List.getElem?_eq_getElem (by simp [rolesOf];omega)⟩
   obtain ⟨b,o,e2,hat⟩:=HRV.out i x hx
   cases e2
   obtain ⟨d0,d1,d2⟩:=role3 (hat.keep HBR.out hat.lt)
   have hbx:=HBR.out.alloc HBR.out.size (.cells (cellsR x) 217)
   have HBX:=Lib.hid hbx
   have HC2:=Lib.hid (HC1.out.keep hbx)
   obtain ⟨k0,k1,k2,k3,k4,k5,k6,k7,k8⟩:=HN1.out.kept hbx
   obtain ⟨q0,q1,q2⟩:=role3 (BoxE.new encR wr x 217).at0
   have HX:=Lib.hid hx
   clear hat hx hbx
   simp only [Nat.zero_add] at d0 d1 d2
   go_wp2_with fail
   clear k0 k1 k2 k3 k4 k5 k6 k7 k8 q0 q1 q2 d0 d1 d2
   refine (find_any _ M.chart x.code _ HC2.out).mono ?_
   rintro en w3 ⟨rfl,hb3⟩
   obtain ⟨fa,hfa⟩:∃ fa,findV (findL M.chart x.code)=fa:=⟨_,rfl⟩
   obtain ⟨s,hs⟩:∃ s,(findL M.chart x.code).isSome=s:=⟨_,rfl⟩
   rw [hfa,hs]
   have HSV:Hid (plainA M.chart x.code x.cls=eqA fa ⟨x.code,x.cls,false,false,emp,false⟩):=Lib.hid (by rw [←hfa];rfl)
   have HB4:=Lib.hid ((HBX.out.trans (hb3.mono HBX.out.size)).alloc (Nat.le_trans HBX.out.size hb3.size) (.cells #[.string fa.code,.int .i64 fa.cls,.bool fa.cash,.bool fa.both,.string fa.fixed,.bool fa.worn] 192))
   have hb4:=hb3.alloc hb3.size (.cells #[.string fa.code,.int .i64 fa.cls,.bool fa.cash,.bool fa.both,.string fa.fixed,.bool fa.worn] 192)
   obtain ⟨q0,q1,q2⟩:=role3 ((BoxE.new encR wr x 217).kept hb4).at0
   obtain ⟨z0,z1,z2,z3,z4,z5⟩:=(BoxA.new w3 fa 192).facts
   have hq:=neq_acc fa ⟨x.code,x.cls,false,false,emp,false⟩
   have hgd:=guard_acc
   obtain ⟨ea,hea⟩:∃ ea,eqA fa ⟨x.code,x.cls,false,false,emp,false⟩=ea:=⟨_,rfl⟩
   rw [hea] at HSV
   simp only [hea] at hq
   clear hs hfa hb3 hb4 hea
   cases ea with
   | false =>
     have HRF:Hid (r=false):=Lib.hid (by rw [←HR.out];exact all_no HX.out HSV.out)
     go_wp2
     go_ret
     exact ⟨by rw [HRF.out];rfl,HB1.out.trans (HB4.out.mono HB1.out.size)⟩
   | true =>
     have HSN:=Lib.hid (HSF.out.next HX.out HSV.out)
     go_wp2
     go_roundw
     case rel=>exact ⟨i+1,by omega,by go_num,HB4,HSN⟩
     case measure=>simp [intOf];omega
  ·have HRT:Hid (r=true):=Lib.hid (by rw [←HR.out];exact HSF.out.done (by simp [rolesOf];omega))
   go_wp2
   go_ret
   exact ⟨by rw [HRT.out];rfl,HB1.out.trans (HBR.out.mono HB1.out.size)⟩
end Go.Proofs.YthcpglnmhimepaaGreatDoor.Un
end
section
namespace Go.Proofs.YthcpglnmhimepaaGreatDoor.Un
open Go.RowKit Go.Maps
set_option maxRecDepth 100000 in
set_option maxHeartbeats 8000000 in
theorem readFlow_any (v:Value) (ws:List ByteArray) (W:World) (B R m n:Nat) (c f e l:Value) (D:DataW Unit) (M:Mast) (hv:StrsV W v ws) (hlaid:Fl.Laid W) (h:RdAt W B R m c f e l n D M) (hB:B≤W.heap.size) (hL:M.flows.length≤1000) (hri:riseK Fl.Flow.code M.flows=true) :
 Calls Tryz.prog 66 #[.pointer (some ⟨R,0,none⟩),v] W (ReadTold W B R m n D { M with flows:=insK Fl.Flow.code M.flows (Fl.parseF ws).1 } (if (Fl.parseF ws).2=0 then Fl.addE M.flows (Fl.parseF ws).1 else (Fl.parseF ws).2)):=by
 have HP:=Lib.hid (Fl.parse_any v ws W hv hlaid)
 have HL:=Lib.hid hL
 obtain ⟨p,cp,rfl,_⟩:=hv
 obtain ⟨A,hA⟩:∃ A,(Fl.parseF ws).1=A:=⟨_,rfl⟩
 obtain ⟨E1,hE1⟩:∃ E1,(Fl.parseF ws).2=E1:=⟨_,rfl⟩
 rw [hA,hE1] at HP ⊢
 have HR:=Lib.hid h
 have HB:=Lib.hid hB
 have hAV:Fl.addE M.flows A=0→Fl.addV M.flows A=insK Fl.Flow.code M.flows A:=fun h0=>by unfold Fl.addV;rw [if_pos h0]
 have HAV:=Lib.hid hAV
 obtain ⟨E2,hE2⟩:∃ E2,Fl.addE M.flows A=E2:=⟨_,rfl⟩
 obtain ⟨MV,hMV⟩:∃ MV,Fl.addV M.flows A=MV:=⟨_,rfl⟩
 have HAD:=Lib.hid (fun (X:World) (hX:Fl.FlowsV X f M.flows)=>Fl.add_own f M.flows A X hX hri hL)
 rw [hE2] at HAV ⊢
 rw [hMV] at HAV
 simp only [hE2,hMV] at HAD
 obtain ⟨nw,hnw⟩:∃ nw,ws.length=nw:=⟨_,rfl⟩
 rw [hnw] at HP ⊢
 obtain ⟨E,hE⟩:∃ E,(if E1=0 then E2 else E1)=E:=⟨_,rfl⟩
 obtain ⟨MM,hMM⟩:∃ MM:Mast,({ M with flows:=insK Fl.Flow.code M.flows A }:Mast)=MM:=⟨_,rfl⟩
 rw [hE,hMM]
 have HE:=Lib.hid hE
 have HMM:=Lib.hid hMM
 clear hA hE1 hE2 hMV h hB hL hri hlaid hAV hnw hE hMM
 go_enter Tryz.func66,Tryz.ntmps66
 go_wp2_with fail
 refine HP.out.mono ?_
 rintro en w1 ⟨rfl,hb1⟩
 have hb2:=hb1.alloc hb1.size (.cells #[.string A.code,.int .i64 A.kind] 70)
 have HR2:=Lib.hid (HR.out.below hb2)
 have HX2:=Lib.hid (BoxE.new Fl.encF w1 A 70)
 have HB2:=Lib.hid (hb2.mono HB.out)
 have HS2:Hid (B≤(w1.alloc (.cells #[.string A.code,.int .i64 A.kind] 70)).heap.size):=Lib.hid (Nat.le_trans HB.out hb2.size)
 clear hb1 hb2
 by_cases h0:E1=0
 ·subst h0
  obtain ⟨W2,hW2⟩:∃ W2,w1.alloc (.cells #[.string A.code,.int .i64 A.kind] 70)=W2:=⟨_,rfl⟩
  rw [hW2] at HR2 HX2 HB2 HS2
  go_wp2_with fail
  clear hW2
  obtain ⟨k0,k1,k2,k3,k4,k5,k6,k7,k8⟩:=(show NineAt W2.drew R c f e l M from HR2.out.nine.kept ⟨rfl,rfl,rfl,Nat.le_refl _,fun _ _=>rfl⟩)
  obtain ⟨j0,j1⟩:=Fl.box (show BoxE Fl.encF W2.drew w1.heap.size 70 A from HX2.out)
  have HCV:Hid (Fl.FlowsV W2.drew f M.flows):=Lib.hid (ElsV.keep (w:=W2) (els_of_own HR2.out.flows) ⟨rfl,rfl,rfl,Nat.le_refl _,fun _ _=>rfl⟩)
  clear k0 k2 k3 k4 k5 k6 k7 k8
  go_region_with (first
   | (go_at_call 104;refine (HAD.out W2.drew HCV.out).mono ?_;rintro en w3 ⟨v9,rfl,ho9,hb9⟩;obtain ⟨p9,c9,rfl,_,_⟩:=els_of_own ho9;have HR3:=Lib.hid (RdAt.below (W:=W2.drew) (HR2.out.below (W':=W2.drew) ⟨rfl,rfl,rfl,Nat.le_refl _,fun _ _=>rfl⟩) hb9);have hz:=HR3.out.nine.c1;have hfz:=HR3.out.free 1)
   | fail)
  all_goals
   have HE2:Hid (E2=E):=Lib.hid (by rw [←HE.out,if_pos (by trivial)])
   have HFIN:Hid (E=0→RdAt (w3.setCell ⟨R,1,none⟩ (.slice p9 MV.length c9)) B R m c (.slice p9 MV.length c9) e l n D MM):=Lib.hid (fun h0=>by
    have hmv:=HAV.out (by rw [HE2.out];exact h0)
    rw [←HMM.out]
    refine rd_stored 1 _ HR3.out.box rfl HR3.out.chart ?_ HR3.out.ents HR3.out.lines HR3.out.map HR3.out.geR HR3.out.geM
    show w3.ownsRow B _ 2 _ (insK Fl.Flow.code M.flows A).length (flat Fl.encF (insK Fl.Flow.code M.flows A))
    rw [←hmv]
    exact row_base ho9 HS2.out)
   have HBF:Hid (Below B W (w3.setCell ⟨R,1,none⟩ (.slice p9 MV.length c9))):=Lib.hid (below_stored (HB2.out.trans ((below_undrawn hb9).mono HS2.out)) HR3.out.geR 1 _)
   clear ho9 hb9 hz hfz
   go_wp2
   go_ret
   exact ⟨by rw [←HE2.out];rfl,HBF.out,fun h0=>⟨_,_,_,_,HFIN.out h0⟩⟩
 ·have HE2:Hid (E1=E∧E≠0):=Lib.hid (by have:=HE.out;rw [if_neg h0] at this;exact ⟨this,by rw [←this];exact h0⟩)
  go_wp2
  go_ret
  exact ⟨by rw [←HE2.out.1];rfl,HB2.out,fun h1=>absurd h1 HE2.out.2⟩
end Go.Proofs.YthcpglnmhimepaaGreatDoor.Un
end
section
namespace Go.Proofs.YthcpglnmhimepaaGreatDoor.Un
open Go.RowKit
abbrev encK:Enc (ByteArray × ByteArray × ByteArray):=⟨fun e=>[.string e.1,.string e.2.1,.string e.2.2],3,fun _=>rfl,by decide,fun _ v hv=>by simp at hv;rcases hv with rfl | rfl | rfl <;> rfl⟩
theorem key3 {w:World} {b:Nat} {t:TypeId} {x y z:ByteArray} (h:BoxE encK w b t (x,y,z)):w.cell? ⟨b,0,none⟩=some (.string x)∧w.cell? ⟨b,1,none⟩=some (.string y)∧w.cell? ⟨b,2,none⟩=some (.string z):=⟨h.at0 0 _ rfl,h.at0 1 _ rfl,h.at0 2 _ rfl⟩
set_option maxRecDepth 100000 in
set_option maxHeartbeats 2000000 in
theorem keyOf_any (v:Value) (ws:List ByteArray) (w:World) (h:StrsV w v ws) (hf:formedW ws=true) :
 Calls Tryz.prog 68 #[v] w fun en w'=>en=.returned (aggK (wd ws 0) (keyB ws) (keyC ws))∧Below w.heap.size w w':=by
 have HB0:=Lib.hid ((Below.refl w.heap.size w).alloc (Nat.le_refl _) (.cells #[.string emp,.string emp,.string emp] 152))
 have HX0:=Lib.hid (BoxE.new encK w (emp,emp,emp) 152)
 have h1:=h.keep HB0.out
 obtain ⟨p,c,rfl,hcap,hm,hc⟩:=h1
 unfold maxLen at hm
 have fin:∀ (w1:World) (a b d:ByteArray),BoxE encK w1 w.heap.size 152 (a,b,d)→(w.alloc (.cells #[.string emp,.string emp,.string emp] 152)).grownBy w1 (some w.heap.size)→Below w.heap.size w w1:=fun w1 a b d _ hg=>HB0.out.grown hg HB0.out.size (fun k hk=>by cases hk;exact Nat.le_refl _)
 have HF:=Lib.hid fin
 clear fin
 rcases formed_ways hf with ⟨h0,a,b,rfl,ha,hb⟩ | ⟨h0,a,b,d,rfl,ha,hb,hd⟩ | ⟨h0,a,h2,ha⟩
 ·obtain ⟨g,o,rfl,k0⟩:=hc 0 tEntity rfl
  obtain ⟨g',o',e1,k1⟩:=hc 1 a rfl
  cases e1
  rw [Nat.add_zero] at k0
  have g1:(tEntity.toList==[101,110,116,105,116,121])=true:=by rw [qEntity];decide
  have HK:Hid (aggK (wd [tEntity,a,b] 0) (keyB [tEntity,a,b]) (keyC [tEntity,a,b])=aggK ⟨#[101,110,116,105,116,121]⟩ a emp):=Lib.hid rfl
  rw [HK.out]
  clear hc h0 hf h
  go_enter Tryz.func68,Tryz.ntmps68
  go_wp2_with (refine wpList_store_el (E:=encK) rfl 152 (.tmp 2) (.tmp 11) rfl w.heap.size (emp,emp,emp) (⟨#[101,110,116,105,116,121]⟩,a,emp) 152 rfl rfl HX0.out (by kernel_rfl) ?_;intro w2 hb2 hg2)
  have HF2:=Lib.hid (HF.out _ _ _ _ hb2 hg2)
  obtain ⟨d0,d1,d2⟩:=key3 hb2
  clear hb2 hg2
  exact bodyPost_ret (v:=aggK ⟨#[101,110,116,105,116,121]⟩ a emp) (by simp [results,Tryz.results68,go_sem,d0,d1,d2]) rfl ⟨rfl,HF2.out⟩
 ·obtain ⟨g,o,rfl,k0⟩:=hc 0 tMap rfl
  obtain ⟨g',o',e1,k1⟩:=hc 1 a rfl
  cases e1
  obtain ⟨g',o',e1,k2⟩:=hc 2 b rfl
  cases e1
  rw [Nat.add_zero] at k0
  have g1:(tMap.toList==[101,110,116,105,116,121])=false:=by rw [qEntity];decide
  have g2:(tMap.toList==[109,97,112])=true:=by rw [qMap];decide
  have HK:Hid (aggK (wd [tMap,a,b,d] 0) (keyB [tMap,a,b,d]) (keyC [tMap,a,b,d])=aggK ⟨#[109,97,112]⟩ a b):=Lib.hid rfl
  rw [HK.out]
  clear hc h0 hf h
  obtain ⟨W,hW⟩:∃ W,w.alloc (.cells #[.string emp,.string emp,.string emp] 152)=W:=⟨_,rfl⟩
  rw [hW] at HB0 HX0 HF k0 k1 k2
  go_enter Tryz.func68,Tryz.ntmps68
  go_wp2_with fail
  clear hW
  obtain ⟨W2,hW2⟩:∃ W2,W.drew=W2:=⟨_,rfl⟩
  have j1:W2.cell? ⟨g,o+1,none⟩=some (.string a):=by rw [←hW2];exact k1
  have j2:W2.cell? ⟨g,o+2,none⟩=some (.string b):=by rw [←hW2];exact k2
  have HX2:Hid (BoxE encK W2 w.heap.size 152 (emp,emp,emp)):=Lib.hid (by rw [←hW2];exact HX0.out)
  have HG2:Hid (W.grownBy W2 (some w.heap.size)):=Lib.hid (by rw [←hW2];exact ⟨rfl,rfl,rfl,Nat.le_refl _,fun _ _ _=>rfl⟩)
  refine wp_region_still_tail 7 (by kernel_rfl) (by kernel_rfl) ?_
  simp only [List.take_succ_cons,List.take_zero,List.drop_succ_cons,List.drop_zero]
  rw [show ({ heap:=W.heap,tape:=W.tape,drawn:=W.drawn+1,os:=W.os,output:=W.output }:World)=W2 from hW2]
  clear hW2 k0 k1 k2
  repeat still_step
  refine wpStill_nil ?_
  clear j1 j2
  go_wp2_with (refine wpList_store_el (E:=encK) rfl 152 (.tmp 2) (.tmp 20) rfl w.heap.size (emp,emp,emp) (⟨#[109,97,112]⟩,a,b) 152 rfl rfl HX2.out (by kernel_rfl) ?_;intro w2 hb2 hg2)
  have HF2:=Lib.hid (HF.out _ _ _ _ hb2 (HG2.out.trans hg2))
  obtain ⟨d0,d1,d2⟩:=key3 hb2
  clear hb2 hg2
  exact bodyPost_ret (v:=aggK ⟨#[109,97,112]⟩ a b) (by simp [results,Tryz.results68,go_sem,d0,d1,d2]) rfl ⟨rfl,HF2.out⟩
 ·obtain ⟨x,hx⟩:∃ x,wd ws 0=x:=⟨_,rfl⟩
  rw [hx] at h0 h2
  subst h2
  obtain ⟨g,o,rfl,k0⟩:=hc 0 x rfl
  rw [Nat.add_zero] at k0
  have n1:x≠tEntity:=by rcases h0 with h | h | h | h | h <;> rw [h] <;> decide
  have n2:x≠tMap:=by rcases h0 with h | h | h | h | h <;> rw [h] <;> decide
  have g1:(x.toList==[101,110,116,105,116,121])=false:=by rw [qEntity];exact decide_eq_false n1
  have g2:(x.toList==[109,97,112])=false:=by rw [qMap];exact decide_eq_false n2
  have HK:Hid (aggK (wd [x,a] 0) (keyB [x,a]) (keyC [x,a])=aggK x emp emp):=Lib.hid (by
   have e0:wd [x,a] 0=x:=rfl
   unfold keyB keyC
   rw [e0,if_neg n1,if_neg n2,if_neg n1,if_neg n2])
  rw [HK.out]
  clear hc h0 hf h n1 n2 hx
  go_enter Tryz.func68,Tryz.ntmps68
  go_wp2_with (refine wpList_store_el (E:=encK) rfl 152 (.tmp 2) (.tmp 24) rfl w.heap.size (emp,emp,emp) (x,emp,emp) 152 rfl rfl HX0.out (by kernel_rfl) ?_;intro w2 hb2 hg2)
  have HF2:=Lib.hid (HF.out _ _ _ _ hb2 hg2)
  obtain ⟨d0,d1,d2⟩:=key3 hb2
  clear hb2 hg2
  exact bodyPost_ret (v:=aggK x emp emp) (by simp [results,Tryz.results68,go_sem,d0,d1,d2]) rfl ⟨rfl,HF2.out⟩
end Go.Proofs.YthcpglnmhimepaaGreatDoor.Un
end
section
namespace Go.Proofs.YthcpglnmhimepaaGreatDoor.Un
open Go.RowKit Go.Maps
set_option maxRecDepth 100000 in
set_option maxHeartbeats 4000000 in
theorem keep_cur (v:Value) (a:ByteArray) (W:World) (B R m n:Nat) (c f e l:Value) (D:DataW Unit) (M:Mast) (hv:StrsV W v [tGroup,a]) (h:RdAt W B R m c f e l n D M) :
 Calls Tryz.prog 69 #[.pointer (some ⟨R,0,none⟩),v] W (ReadTold W B R m n D { M with cur:=a } 0):=by
 obtain ⟨p,cp,rfl,_,_,hc⟩:=hv
 obtain ⟨g,o,rfl,k0⟩:=hc 0 tGroup rfl
 obtain ⟨g',o',e1,k1⟩:=hc 1 a rfl
 cases e1
 rw [Nat.add_zero] at k0
 have g0:(tGroup.toList==[101,110,116,105,116,121])=false:=by rw [qEntity];decide
 have g1:(tGroup.toList==[109,97,112])=false:=by rw [qMap];decide
 have gt:(tGroup.toList==[103,114,111,117,112])=true:=by rw [qGroup];decide
 have HF:Hid (RdAt (W.setCell ⟨R,4,none⟩ (.string a)) B R m c f e l n D { M with cur:=a }):=Lib.hid (rd_stored 4 _ h.box rfl h.chart h.flows h.ents h.lines h.map h.geR h.geM)
 have HB:Hid (Below B W (W.setCell ⟨R,4,none⟩ (.string a))):=Lib.hid (below_stored (Below.refl B W) h.geR 4 _)
 obtain ⟨MM,hMM⟩:∃ MM:Mast,({ M with cur:=a }:Mast)=MM:=⟨_,rfl⟩
 rw [hMM] at HF ⊢
 have hz:=h.nine.c4
 have hfz:=h.free 4
 clear hc hMM h
 go_enter Tryz.func69,Tryz.ntmps69
 go_wp2
 go_ret
 exact ⟨rfl,HB.out,fun _=>⟨_,_,_,_,HF.out⟩⟩
set_option maxRecDepth 100000 in
set_option maxHeartbeats 4000000 in
theorem keep_res (v:Value) (a:ByteArray) (W:World) (B R m n:Nat) (c f e l:Value) (D:DataW Unit) (M:Mast) (hv:StrsV W v [tReserve,a]) (h:RdAt W B R m c f e l n D M) :
 Calls Tryz.prog 69 #[.pointer (some ⟨R,0,none⟩),v] W (ReadTold W B R m n D { M with res:=a } 0):=by
 obtain ⟨p,cp,rfl,_,_,hc⟩:=hv
 obtain ⟨g,o,rfl,k0⟩:=hc 0 tReserve rfl
 obtain ⟨g',o',e1,k1⟩:=hc 1 a rfl
 cases e1
 rw [Nat.add_zero] at k0
 have g0:(tReserve.toList==[101,110,116,105,116,121])=false:=by rw [qEntity];decide
 have g1:(tReserve.toList==[109,97,112])=false:=by rw [qMap];decide
 have g2:(tReserve.toList==[103,114,111,117,112])=false:=by rw [qGroup];decide
 have gt:(tReserve.toList==[114,101,115,101,114,118,101])=true:=by rw [qReserve];decide
 have HF:Hid (RdAt (W.setCell ⟨R,5,none⟩ (.string a)) B R m c f e l n D { M with res:=a }):=Lib.hid (rd_stored 5 _ h.box rfl h.chart h.flows h.ents h.lines h.map h.geR h.geM)
 have HB:Hid (Below B W (W.setCell ⟨R,5,none⟩ (.string a))):=Lib.hid (below_stored (Below.refl B W) h.geR 5 _)
 obtain ⟨MM,hMM⟩:∃ MM:Mast,({ M with res:=a }:Mast)=MM:=⟨_,rfl⟩
 rw [hMM] at HF ⊢
 have hz:=h.nine.c5
 have hfz:=h.free 5
 clear hc hMM h
 go_enter Tryz.func69,Tryz.ntmps69
 go_wp2
 go_ret
 exact ⟨rfl,HB.out,fun _=>⟨_,_,_,_,HF.out⟩⟩
set_option maxRecDepth 100000 in
set_option maxHeartbeats 4000000 in
theorem keep_dif (v:Value) (a:ByteArray) (W:World) (B R m n:Nat) (c f e l:Value) (D:DataW Unit) (M:Mast) (hv:StrsV W v [tDiffer,a]) (h:RdAt W B R m c f e l n D M) :
 Calls Tryz.prog 69 #[.pointer (some ⟨R,0,none⟩),v] W (ReadTold W B R m n D { M with dif:=a } 0):=by
 obtain ⟨p,cp,rfl,_,_,hc⟩:=hv
 obtain ⟨g,o,rfl,k0⟩:=hc 0 tDiffer rfl
 obtain ⟨g',o',e1,k1⟩:=hc 1 a rfl
 cases e1
 rw [Nat.add_zero] at k0
 have g0:(tDiffer.toList==[101,110,116,105,116,121])=false:=by rw [qEntity];decide
 have g1:(tDiffer.toList==[109,97,112])=false:=by rw [qMap];decide
 have g2:(tDiffer.toList==[103,114,111,117,112])=false:=by rw [qGroup];decide
 have g3:(tDiffer.toList==[114,101,115,101,114,118,101])=false:=by rw [qReserve];decide
 have gt:(tDiffer.toList==[100,105,102,102,101,114])=true:=by rw [qDiffer];decide
 have HF:Hid (RdAt (W.setCell ⟨R,6,none⟩ (.string a)) B R m c f e l n D { M with dif:=a }):=Lib.hid (rd_stored 6 _ h.box rfl h.chart h.flows h.ents h.lines h.map h.geR h.geM)
 have HB:Hid (Below B W (W.setCell ⟨R,6,none⟩ (.string a))):=Lib.hid (below_stored (Below.refl B W) h.geR 6 _)
 obtain ⟨MM,hMM⟩:∃ MM:Mast,({ M with dif:=a }:Mast)=MM:=⟨_,rfl⟩
 rw [hMM] at HF ⊢
 have hz:=h.nine.c6
 have hfz:=h.free 6
 clear hc hMM h
 go_enter Tryz.func69,Tryz.ntmps69
 go_wp2
 go_ret
 exact ⟨rfl,HB.out,fun _=>⟨_,_,_,_,HF.out⟩⟩
set_option maxRecDepth 100000 in
set_option maxHeartbeats 4000000 in
theorem keep_min (v:Value) (a:ByteArray) (W:World) (B R m n:Nat) (c f e l:Value) (D:DataW Unit) (M:Mast) (hv:StrsV W v [tMinor,a]) (h:RdAt W B R m c f e l n D M) :
 Calls Tryz.prog 69 #[.pointer (some ⟨R,0,none⟩),v] W (ReadTold W B R m n D { M with min:=a } 0):=by
 obtain ⟨p,cp,rfl,_,_,hc⟩:=hv
 obtain ⟨g,o,rfl,k0⟩:=hc 0 tMinor rfl
 obtain ⟨g',o',e1,k1⟩:=hc 1 a rfl
 cases e1
 rw [Nat.add_zero] at k0
 have g0:(tMinor.toList==[101,110,116,105,116,121])=false:=by rw [qEntity];decide
 have g1:(tMinor.toList==[109,97,112])=false:=by rw [qMap];decide
 have g2:(tMinor.toList==[103,114,111,117,112])=false:=by rw [qGroup];decide
 have g3:(tMinor.toList==[114,101,115,101,114,118,101])=false:=by rw [qReserve];decide
 have g4:(tMinor.toList==[100,105,102,102,101,114])=false:=by rw [qDiffer];decide
 have gt:(tMinor.toList==[109,105,110,111,114])=true:=by rw [qMinor];decide
 have HF:Hid (RdAt (W.setCell ⟨R,7,none⟩ (.string a)) B R m c f e l n D { M with min:=a }):=Lib.hid (rd_stored 7 _ h.box rfl h.chart h.flows h.ents h.lines h.map h.geR h.geM)
 have HB:Hid (Below B W (W.setCell ⟨R,7,none⟩ (.string a))):=Lib.hid (below_stored (Below.refl B W) h.geR 7 _)
 obtain ⟨MM,hMM⟩:∃ MM:Mast,({ M with min:=a }:Mast)=MM:=⟨_,rfl⟩
 rw [hMM] at HF ⊢
 have hz:=h.nine.c7
 have hfz:=h.free 7
 clear hc hMM h
 go_enter Tryz.func69,Tryz.ntmps69
 go_wp2
 go_ret
 exact ⟨rfl,HB.out,fun _=>⟨_,_,_,_,HF.out⟩⟩
set_option maxRecDepth 100000 in
set_option maxHeartbeats 4000000 in
theorem keep_stk (v:Value) (a:ByteArray) (W:World) (B R m n:Nat) (c f e l:Value) (D:DataW Unit) (M:Mast) (hv:StrsV W v [tStake,a]) (h:RdAt W B R m c f e l n D M) :
 Calls Tryz.prog 69 #[.pointer (some ⟨R,0,none⟩),v] W (ReadTold W B R m n D { M with stk:=a } 0):=by
 obtain ⟨p,cp,rfl,_,_,hc⟩:=hv
 obtain ⟨g,o,rfl,k0⟩:=hc 0 tStake rfl
 obtain ⟨g',o',e1,k1⟩:=hc 1 a rfl
 cases e1
 rw [Nat.add_zero] at k0
 have g0:(tStake.toList==[101,110,116,105,116,121])=false:=by rw [qEntity];decide
 have g1:(tStake.toList==[109,97,112])=false:=by rw [qMap];decide
 have g2:(tStake.toList==[103,114,111,117,112])=false:=by rw [qGroup];decide
 have g3:(tStake.toList==[114,101,115,101,114,118,101])=false:=by rw [qReserve];decide
 have g4:(tStake.toList==[100,105,102,102,101,114])=false:=by rw [qDiffer];decide
 have g5:(tStake.toList==[109,105,110,111,114])=false:=by rw [qMinor];decide
 have gt:(tStake.toList==[115,116,97,107,101])=true:=by rw [qStake];decide
 have HF:Hid (RdAt (W.setCell ⟨R,8,none⟩ (.string a)) B R m c f e l n D { M with stk:=a }):=Lib.hid (rd_stored 8 _ h.box rfl h.chart h.flows h.ents h.lines h.map h.geR h.geM)
 have HB:Hid (Below B W (W.setCell ⟨R,8,none⟩ (.string a))):=Lib.hid (below_stored (Below.refl B W) h.geR 8 _)
 obtain ⟨MM,hMM⟩:∃ MM:Mast,({ M with stk:=a }:Mast)=MM:=⟨_,rfl⟩
 rw [hMM] at HF ⊢
 have hz:=h.nine.c8
 have hfz:=h.free 8
 clear hc hMM h
 go_enter Tryz.func69,Tryz.ntmps69
 go_wp2
 go_ret
 exact ⟨rfl,HB.out,fun _=>⟨_,_,_,_,HF.out⟩⟩
end Go.Proofs.YthcpglnmhimepaaGreatDoor.Un
end
section
namespace Go.Proofs.YthcpglnmhimepaaGreatDoor.Un
open Go.RowKit
set_option maxRecDepth 100000 in
set_option maxHeartbeats 4000000 in
theorem linesNamed_any (c f e l:Value) (M:Mast) (w:World) (h:MastIn w c f e l M) (hri:riseK Fl.Flow.code M.flows=true) (hfl:M.flows.length≤1000) :
 Calls Tryz.prog 71 #[aggM c f e l M] w fun en w'=>en=.returned (.bool (linesN M))∧Below w.heap.size w w':=by
 have HB0:=Lib.hid ((Below.refl w.heap.size w).alloc (Nat.le_refl _) (.cells (cellsM c f e l M) 30))
 have HN0:=Lib.hid (nine_new w c f e l M 30)
 have HM0:=Lib.hid (h.keep HB0.out)
 have HRI:=Lib.hid hri
 have HFL:=Lib.hid hfl
 obtain ⟨r,hr⟩:∃ r,linesN M=r:=⟨_,rfl⟩
 have HR:Hid (M.lines.all (lineN M)=r):=Lib.hid hr
 rw [hr]
 clear hr h hri hfl
 obtain ⟨W,hW⟩:∃ W,w.alloc (.cells (cellsM c f e l M) 30)=W:=⟨_,rfl⟩
 rw [hW] at HB0 HN0 HM0
 obtain ⟨pl,cl,el,hlc,hlm,_,hlv⟩:=HM0.out.lines
 subst el
 obtain ⟨n,hn⟩:∃ n,M.lines.length=n:=⟨_,rfl⟩
 rw [hn] at hlc
 have HN:=Lib.hid hn
 have HLV:=Lib.hid hlv
 unfold maxLen at hlm
 rw [hn] at HN0 HM0 ⊢
 rw [hn] at hW
 clear hlv hn
 obtain ⟨c0,c1,c2,c3,c4,c5,c6,c7,c8⟩:=HN0.out
 go_enter Tryz.func71,Tryz.ntmps71
 go_wp2
 clear c0 c1 c2 c3 c4 c5 c6 c7 c8 hW
 go_loopw [12] (fun s12 wr=>∃ i:Nat,i≤n∧s12=.int .i64 (i:Int)∧Hid (Below W.heap.size W wr)∧Hid (SoFar (lineN M) M.lines i)) (fun s12 _=>n - (intOf s12).toNat)
 case atStart=>exact ⟨0,Nat.zero_le _,rfl,Lib.hid (Below.refl _ _),Lib.hid (SoFar.zero _ _)⟩
 case round =>
  obtain ⟨i,hi,rfl,HBR,HSF⟩:=hrel
  by_cases hlt:i < n
  ·obtain ⟨x,hx⟩:∃ x,M.lines[i]?=some x:=⟨_,List.getElem?_eq_getElem (by rw [HN.out];exact hlt)⟩
   obtain ⟨b,o,rfl,hat⟩:=HLV.out i x hx
   obtain ⟨d0,d1,d2⟩:=lin3 (hat.keep HBR.out hat.lt)
   have hbx:=HBR.out.alloc HBR.out.size (.cells #[.string x.acc,.string x.flow,.string x.goal] 211)
   have HBX:=Lib.hid hbx
   have HM2:=Lib.hid (HM0.out.keep hbx)
   have HN2:=Lib.hid (HN0.out.kept hbx)
   have HX2:=Lib.hid (BoxE.new encL wr x 211)
   obtain ⟨k0,k1,k2,k3,k4,k5,k6,k7,k8⟩:=HN2.out
   obtain ⟨q0,q1,q2⟩:=lin3 HX2.out.at0
   have HX:=Lib.hid hx
   clear hat hx hbx
   go_wp2_with fail
   clear k0 k1 k2 k3 k4 k5 k6 k7 k8 q0 q1 q2 d0 d1 d2
   refine (find_any _ M.chart x.acc _ HM2.out.chart).mono ?_
   rintro en w3 ⟨rfl,hb3⟩
   obtain ⟨fa,hfa⟩:∃ fa,findV (findL M.chart x.acc)=fa:=⟨_,rfl⟩
   obtain ⟨s,hs⟩:∃ s,(findL M.chart x.acc).isSome=s:=⟨_,rfl⟩
   rw [hfa,hs]
   have HSV:Hid (hasA M.chart x.acc=s):=Lib.hid hs
   have hb4:=hb3.alloc hb3.size (.cells #[.string fa.code,.int .i64 fa.cls,.bool fa.cash,.bool fa.both,.string fa.fixed,.bool fa.worn] 192)
   have HB4:=Lib.hid (HBX.out.trans (hb4.mono HBX.out.size))
   have HM4:=Lib.hid (HM2.out.keep hb4)
   obtain ⟨k0,k1,k2,k3,k4,k5,k6,k7,k8⟩:=HN2.out.kept hb4
   obtain ⟨q0,q1,q2⟩:=lin3 (HX2.out.kept hb4).at0
   clear hs hfa hb3 hb4 HM2 HN2 HX2 HBX
   go_wp2_with fail
   clear k0 k1 k2 k3 k4 k5 k6 k7 k8 q0 q1 q2
   refine (Fl.kind_any _ M.flows x.flow _ HM4.out.flows HRI.out HFL.out).mono ?_
   rintro en w5 ⟨rfl,hb5⟩
   obtain ⟨kd,hkd⟩:∃ kd,Fl.kindL M.flows x.flow=kd:=⟨_,rfl⟩
   obtain ⟨s2,hs2⟩:∃ s2,isK Fl.Flow.code M.flows x.flow=s2:=⟨_,rfl⟩
   rw [hkd,hs2]
   have HSW:Hid (lineN M x=(s && s2)):=Lib.hid (by unfold lineN;rw [HSV.out,hs2])
   have HB5:=Lib.hid (HB4.out.trans (hb5.mono HB4.out.size))
   clear hkd hs2 hb5 HB4 HM4
   cases s with
   | false =>
     have HRF:Hid (r=false):=Lib.hid (by rw [←HR.out];exact all_no HX.out (by rw [HSW.out];rfl))
     go_wp2
     go_ret
     exact ⟨by rw [HRF.out];rfl,HB0.out.trans (HB5.out.mono HB0.out.size)⟩
   | true =>
     cases s2 with
     | false =>
       have HRF:Hid (r=false):=Lib.hid (by rw [←HR.out];exact all_no HX.out (by rw [HSW.out];rfl))
       go_wp2
       go_ret
       exact ⟨by rw [HRF.out];rfl,HB0.out.trans (HB5.out.mono HB0.out.size)⟩
     | true =>
       have HSN:=Lib.hid (HSF.out.next HX.out (by rw [HSW.out];rfl))
       go_wp2
       go_roundw
       case rel=>exact ⟨i+1,by omega,by go_num,HB5,HSN⟩
       case measure=>simp [intOf];omega
  ·have HRT:Hid (r=true):=Lib.hid (by rw [←HR.out];exact HSF.out.done (by rw [HN.out];omega))
   go_wp2
   go_ret
   exact ⟨by rw [HRT.out];rfl,HB0.out.trans (HBR.out.mono HB0.out.size)⟩
end Go.Proofs.YthcpglnmhimepaaGreatDoor.Un
end
section
namespace Go.Proofs.YthcpglnmhimepaaGreatDoor.Un
open Go.RowKit
theorem allE_of (M:Mast):allE M=if (decide (M.cur=emp) || !rolesN M || !linesN M)=true then 6 else if Fl.wholeF M.flows=false then 8 else if rolesP M=false then 15 else 0:=rfl
theorem emp_iff (s:ByteArray):s.toList.isEmpty=decide (s=emp):=by
 rw [Bool.eq_iff_iff,decide_eq_true_eq]
 have:=neB_iff s
 unfold neB at this
 cases h:s.toList.isEmpty with
 | false=>rw [h] at this;simp at this;simp [this]
 | true=>rw [h] at this;simp at this;simp [this]
set_option maxRecDepth 100000 in
set_option maxHeartbeats 4000000 in
theorem check_any (c f e l:Value) (M:Mast) (w:World) (h:MastIn w c f e l M) (hri:riseK Fl.Flow.code M.flows=true) (hfl:M.flows.length≤1000) :
 Calls Tryz.prog 42 #[aggM c f e l M] w fun en w'=>en=.returned (.int .i64 (allE M))∧Below w.heap.size w w':=by
 have HB0:=Lib.hid ((Below.refl w.heap.size w).alloc (Nat.le_refl _) (.cells (cellsM c f e l M) 30))
 have HN0:=Lib.hid (nine_new w c f e l M 30)
 have HM0:=Lib.hid (h.keep HB0.out)
 have HA:=Lib.hid (fun W hW=>rolesNamed_any c f e l M W hW)
 have HB:=Lib.hid (fun W hW=>linesNamed_any c f e l M W hW hri hfl)
 have HC:=Lib.hid (fun W hW=>rolesPlain_any c f e l M W hW)
 have HD:=Lib.hid (fun v W hW=>Fl.whole_any v M.flows W hW hfl)
 have hall:=allE_of M
 obtain ⟨E,hE⟩:∃ E,allE M=E:=⟨_,rfl⟩
 obtain ⟨a,ha⟩:∃ a,rolesN M=a:=⟨_,rfl⟩
 obtain ⟨b,hb⟩:∃ b,linesN M=b:=⟨_,rfl⟩
 obtain ⟨p,hp⟩:∃ p,rolesP M=p:=⟨_,rfl⟩
 obtain ⟨q,hq⟩:∃ q,Fl.wholeF M.flows=q:=⟨_,rfl⟩
 simp only [ha] at HA
 simp only [hb] at HB
 simp only [hp] at HC
 simp only [hq] at HD
 rw [hE,ha,hb,hp,hq] at hall
 rw [hE]
 have HALL:=Lib.hid hall
 clear hall hE ha hb hp hq h hri hfl
 obtain ⟨c0,c1,c2,c3,c4,c5,c6,c7,c8⟩:=HN0.out
 by_cases hcur:M.cur=emp
 ·have HE6:Hid (E=6):=Lib.hid (by rw [HALL.out,decide_eq_true hcur];rfl)
  have hc:M.cur.toList.isEmpty=true:=by rw [emp_iff];exact decide_eq_true hcur
  clear hcur
  go_enter Tryz.func42,Tryz.ntmps42
  go_wp2
  go_ret
  exact ⟨by rw [HE6.out];rfl,HB0.out⟩
 ·have hc:M.cur.toList.isEmpty=false:=by rw [emp_iff];exact decide_eq_false hcur
  rw [decide_eq_false hcur] at HALL
  clear hcur
  go_enter Tryz.func42,Tryz.ntmps42
  go_wp2_with fail
  clear c0 c1 c2 c3 c4 c5 c6 c7 c8
  refine (HA.out _ HM0.out).mono ?_
  rintro en w1 ⟨rfl,hb1⟩
  have HB1:=Lib.hid (HB0.out.trans (hb1.mono HB0.out.size))
  have HN1:=Lib.hid (HN0.out.kept hb1)
  have HM1:=Lib.hid (HM0.out.keep hb1)
  obtain ⟨c0,c1,c2,c3,c4,c5,c6,c7,c8⟩:=HN1.out
  clear hb1
  cases a with
  | false =>
    have HE6:Hid (E=6):=Lib.hid (by rw [HALL.out];rfl)
    go_wp2
    go_ret
    exact ⟨by rw [HE6.out];rfl,HB1.out⟩
  | true =>
    go_wp2_with fail
    clear c0 c1 c2 c3 c4 c5 c6 c7 c8
    refine (HB.out _ HM1.out).mono ?_
    rintro en w2 ⟨rfl,hb2⟩
    have HB2:=Lib.hid (HB1.out.trans (hb2.mono HB1.out.size))
    have HN2:=Lib.hid (HN1.out.kept hb2)
    have HM2:=Lib.hid (HM1.out.keep hb2)
    obtain ⟨c0,c1,c2,c3,c4,c5,c6,c7,c8⟩:=HN2.out
    clear hb2
    cases b with
    | false =>
      have HE6:Hid (E=6):=Lib.hid (by rw [HALL.out];rfl)
      go_wp2
      go_ret
      exact ⟨by rw [HE6.out];rfl,HB2.out⟩
    | true =>
      go_wp2_with fail
      clear c0 c1 c2 c3 c4 c5 c6 c7 c8
      refine (HD.out _ _ HM2.out.flows).mono ?_
      rintro en w3 ⟨rfl,hb3⟩
      have HB3:=Lib.hid (HB2.out.trans (hb3.mono HB2.out.size))
      have HN3:=Lib.hid (HN2.out.kept hb3)
      have HM3:=Lib.hid (HM2.out.keep hb3)
      obtain ⟨c0,c1,c2,c3,c4,c5,c6,c7,c8⟩:=HN3.out
      clear hb3
      cases q with
      | false =>
        have HE6:Hid (E=8):=Lib.hid (by rw [HALL.out];rfl)
        go_wp2
        go_ret
        exact ⟨by rw [HE6.out];rfl,HB3.out⟩
      | true =>
        go_wp2_with fail
        clear c0 c1 c2 c3 c4 c5 c6 c7 c8
        refine (HC.out _ HM3.out).mono ?_
        rintro en w4 ⟨rfl,hb4⟩
        have HB4:=Lib.hid (HB3.out.trans (hb4.mono HB3.out.size))
        clear hb4
        cases p with
        | false =>
          have HE6:Hid (E=15):=Lib.hid (by rw [HALL.out];rfl)
          go_wp2
          go_ret
          exact ⟨by rw [HE6.out];rfl,HB4.out⟩
        | true =>
          have HE6:Hid (E=0):=Lib.hid (by rw [HALL.out];rfl)
          go_wp2
          go_ret
          exact ⟨by rw [HE6.out];rfl,HB4.out⟩
end Go.Proofs.YthcpglnmhimepaaGreatDoor.Un
end
section
namespace Go.Proofs.YthcpglnmhimepaaGreatDoor
open Go.RowKit Go.Shelf
set_option maxHeartbeats 400000 in
theorem liteCut_miss (d:UInt8) (s:ByteArray) (w:World) (h:Lib.indexByte s.data.toList d=-1) :
 Calls Tryz.prog 123 #[.string s,.string ⟨#[d]⟩] w fun e w'=>e=.returned (.tuple #[.string s,.string ⟨#[]⟩,.bool false])∧w=w':=by
 have H:=Lib.hid h
 clear h
 go_enter Tryz.func123,Tryz.ntmps123
 go_wp2_with fail
 refine (Tryz.stringslite_Index_one s d _).mono ?_
 rintro e w' ⟨rfl,rfl⟩
 rw [H.out]
 go_wp2
 go_ret3
 exact ⟨rfl,rfl⟩
set_option maxHeartbeats 400000 in
theorem liteCut_hit (d:UInt8) (s:ByteArray) (i:Nat) (w:World) (h:Lib.indexByte s.data.toList d=(i:Int)) (hi:i < s.size) (hs:s.size≤maxLen) :
 Calls Tryz.prog 123 #[.string s,.string ⟨#[d]⟩] w fun e w'=>e=.returned (.tuple #[.string (s.extract 0 i),.string (s.extract (i+1) s.size),.bool true])∧∃ n,w'=w.drewN n:=by
 have H:=Lib.hid h
 clear h
 unfold maxLen at hs
 have c1:(0:Int)≤↑i:=by omega
 have c2:(↑i:Int)≤↑s.size:=by omega
 have c3:(0:Int)≤↑i+1:=by omega
 have c4:(↑i+1:Int)≤↑s.size:=by omega
 have c5:IntKind.i64.wrap (↑i+1)=↑i+1:=IntWalk.i64_in _ (by omega)
 have c6:((↑i:Int)+1).toNat=i+1:=by omega
 go_enter Tryz.func123,Tryz.ntmps123
 go_wp2_with fail
 refine (Tryz.stringslite_Index_one s d _).mono ?_
 rintro e w' ⟨rfl,rfl⟩
 rw [H.out]
 go_wp2
 go_region
 go_wp2
 go_ret3
 exact ⟨rfl,1,rfl⟩
set_option maxHeartbeats 400000 in
theorem cut_miss (d:UInt8) (s:ByteArray) (w:World) (h:Lib.indexByte s.data.toList d=-1) :
 Calls Tryz.prog 83 #[.string s,.string ⟨#[d]⟩] w fun e w'=>e=.returned (.tuple #[.string s,.string ⟨#[]⟩,.bool false])∧w=w':=by
 have H:=Lib.hid h
 clear h
 go_enter Tryz.func83,Tryz.ntmps83
 go_wp2_with fail
 refine (liteCut_miss d s _ H.out).mono ?_
 rintro e w' ⟨rfl,rfl⟩
 go_wp2
 go_ret3
 exact ⟨rfl,rfl⟩
set_option maxHeartbeats 400000 in
theorem cut_hit (d:UInt8) (s:ByteArray) (i:Nat) (w:World) (h:Lib.indexByte s.data.toList d=(i:Int)) (hi:i < s.size) (hs:s.size≤maxLen) :
 Calls Tryz.prog 83 #[.string s,.string ⟨#[d]⟩] w fun e w'=>e=.returned (.tuple #[.string (s.extract 0 i),.string (s.extract (i+1) s.size),.bool true])∧∃ n,w'=w.drewN n:=by
 have H:=Lib.hid h
 have HI:=Lib.hid hi
 have HS:=Lib.hid hs
 clear h hi hs
 go_enter Tryz.func83,Tryz.ntmps83
 go_wp2_with fail
 refine (liteCut_hit d s i _ H.out HI.out HS.out).mono ?_
 rintro e w' ⟨rfl,n,rfl⟩
 go_wp2
 go_ret3
 exact ⟨rfl,n,rfl⟩
def WordsPost (w:World) (ws:List ByteArray) (e:Ending) (w':World):Prop :=
 ∃ A,e=.returned (.slice (some ⟨A,0,none⟩) ws.length ws.length)∧w.heap.size≤A ∧
   w'.ownsRow w.heap.size 9 1 (.slice (some ⟨A,0,none⟩) ws.length ws.length) ws.length (ws.map Value.string)∧Below w.heap.size w w'
theorem between_pred (w:World):PredAtRunes Tryz.prog 85 #[] gapR w:=fun W x hx _ =>
 (between_any x W hx).mono fun _ _ ⟨he,hw⟩=>⟨he,0,hw.symm⟩
theorem fields_any (s:ByteArray) (w:World) (hs:s.size≤30000) (ha:∀ c∈s.data.toList,c.toNat < 128) :
 Calls Tryz.prog 84 #[.string s,.func (.func 85) #[] #[]] w (WordsPost w ((fieldsGo [] s.data.toList).map mkB)):=by
 rw [←fields_plain s ha]
 exact Tryz.strings_FieldsFunc_runes 85 #[] (enters_of Tryz.func85 (by kernel_rfl) rfl) gapR s w (by omega) (between_pred w)
theorem WordsPost.from {w w0:World} {ws:List ByteArray} {e:Ending} {w':World} (h:WordsPost w0 ws e w') (hb:Below w.heap.size w w0) (hz:w0.heap.size=w.heap.size):WordsPost w ws e w':=by
 obtain ⟨A,he,hA,ho,hb'⟩:=h
 rw [hz] at hA ho hb'
 exact ⟨A,he,hA,ho,hb.trans hb'⟩
set_option maxHeartbeats 400000 in
theorem wordsOf_any (s:ByteArray) (w:World) (hs:s.size≤30000) (ha:∀ c∈s.data.toList,c.toNat < 128) :
 Calls Tryz.prog 47 #[.string s] w (WordsPost w ((wordsL s.data.toList).map mkB)):=by
 rcases cut_cases 35 s.data.toList with ⟨h1,h2⟩ | ⟨i,h1,h2,h3,h4⟩
 ·have e0:wordsL s.data.toList=fieldsGo [] s.data.toList:=by unfold wordsL;rw [said_none _ h2]
  rw [e0]
  have H:=Lib.hid h1
  have HA:=Lib.hid ha
  have HF:=Lib.hid (fields_any s w hs ha)
  clear h1 h2 e0 ha
  obtain ⟨ws,hws⟩:∃ ws,(fieldsGo [] s.data.toList).map mkB=ws:=⟨_,rfl⟩
  rw [hws] at HF ⊢
  clear hws
  go_enter Tryz.func47,Tryz.ntmps47
  go_wp2_with fail
  refine (cut_miss 35 s _ H.out).mono ?_
  rintro e w' ⟨rfl,rfl⟩
  go_wp2_with fail
  refine HF.out.mono ?_
  rintro e w1 ⟨A,rfl,hA,ho,hb⟩
  go_wp2
  go_ret
  exact ⟨A,rfl,hA,ho,hb⟩
 ·have hi:i < s.size:=by rw [←size_list];exact h2
  have e0:wordsL s.data.toList=fieldsGo [] (s.data.toList.take i):=by
   unfold wordsL
   have:said s.data.toList=s.data.toList.take i:=by
    conv=>lhs;rw [h4]
    exact said_mark _ _ h3
   rw [this]
  rw [e0]
  have hx:(s.extract 0 i).data.toList=s.data.toList.take i:=by rw [piece_ahead,mkB_data]
  have hz:(s.extract 0 i).size≤30000:=by rw [←size_list,hx,List.length_take];have:=size_list s;omega
  have ha':∀ c∈(s.extract 0 i).data.toList,c.toNat < 128:=fun c hc=>ha c (by rw [hx] at hc;exact List.mem_of_mem_take hc)
  have HF:Hid (∀ n,Calls Tryz.prog 84 #[.string (s.extract 0 i),.func (.func 85) #[] #[]] (w.drewN n) (WordsPost w ((fieldsGo [] (s.data.toList.take i)).map mkB))):=Lib.hid fun n=>by
   have:=fields_any (s.extract 0 i) (w.drewN n) hz ha'
   rw [hx] at this
   exact this.mono fun e w' h=>h.from (below_drewN (Below.refl _ _) n) (by simp)
  have H:=Lib.hid h1
  have HI:=Lib.hid hi
  have HS:Hid (s.size≤maxLen):=Lib.hid (by unfold maxLen;omega)
  clear h1 h2 h3 h4 hi e0 hx hz ha' ha hs
  obtain ⟨ws,hws⟩:∃ ws,(fieldsGo [] (s.data.toList.take i)).map mkB=ws:=⟨_,rfl⟩
  rw [hws] at HF ⊢
  clear hws
  obtain ⟨u,hu⟩:∃ u,s.extract 0 i=u:=⟨_,rfl⟩
  obtain ⟨v,hv⟩:∃ v,s.extract (i+1) s.size=v:=⟨_,rfl⟩
  rw [hu] at HF
  have HU:=Lib.hid (And.intro hu hv)
  clear hu hv
  go_enter Tryz.func47,Tryz.ntmps47
  go_wp2_with fail
  refine (cut_hit 35 s i _ H.out HI.out HS.out).mono ?_
  rintro e w' ⟨rfl,n,rfl⟩
  rw [HU.out.1,HU.out.2]
  go_wp2_with fail
  refine (HF.out n).mono ?_
  rintro e w1 ⟨A,rfl,hA,ho,hb⟩
  go_wp2
  go_ret
  exact ⟨A,rfl,hA,ho,hb⟩
end Go.Proofs.YthcpglnmhimepaaGreatDoor
end
section
namespace Go.Proofs.YthcpglnmhimepaaGreatDoor
open Go.RowKit Go.Shelf
attribute [local go_sem] Oper.semAt_some
def LineX:Type:={ x:Nat × List UInt8 // x.1≤30001∧x.2.length≤20000∧okL x.2=true }
def LineX.n (x:LineX):Nat:=x.1.1
def LineX.l (x:LineX):List UInt8:=x.1.2
def LineX.pair (x:LineX):Nat × List UInt8:=(x.n,x.l)
def encX (x:LineX):Array Value:=#[.int .i64 (x.n:Int),.string (mkB x.l)]
theorem linesX:∀ (L:List (List UInt8)) (n:Nat),n+L.length≤30001→(∀ x∈L,okL x=true∧x.length≤20000)→∃ xs:List LineX,xs.map LineX.pair=enumL n L
 | [],_,_,_=>⟨[],rfl⟩
 | x::r,n,h,hx=>by
   simp at h
   obtain ⟨xs,hxs⟩:=linesX r (n+1) (by omega) fun y hy=>hx y (List.mem_cons_of_mem _ hy)
   have h1:=hx x (List.mem_cons_self ..)
   have y:{ y:LineX // y.pair=(n,x) }:=⟨⟨(n,x),by simp;omega,h1.2,h1.1⟩,rfl⟩
   exact ⟨y.1::xs,by rw [List.map_cons,hxs,y.2];rfl⟩
theorem grown_drewN (w:World) (n:Nat):w.grownBy (w.drewN n) none:=by
 have h:=below_drewN (Below.refl w.heap.size w) n
 exact ⟨h.os,h.tape,h.output,h.size,fun j hj _=>h.block j hj⟩
def restOf:Value→Value→Nat
 | .string r,.bool true=>r.size+1
 | _,_=>0
def IterAt (J:List LineX→World→Prop) (xs:List LineX) (s3 s4 s5:Value) (wr:World):Prop :=
 ∃ (pre post:List LineX) (r:ByteArray) (m:Bool) (n:Nat),s3=.string r∧s4=.bool m∧s5=.int .i64 (n:Int)∧xs=pre++post ∧
   (m=true→post.map LineX.pair=enumL n (linesGo [] r.data.toList))∧(m=false→post=[])∧r.size≤20000∧n+post.length≤30001∧J pre wr
set_option maxRecDepth 100000 in
set_option maxHeartbeats 2000000 in
theorem iter_in (n:Nat) (hn:1≤n) (l Bn n₀:Nat) (s:ByteArray) (hs:s.size≤20000) (xs:List LineX) (hxs:xs.map LineX.pair=enumL 1 (linesGo [] s.data.toList)) (J Jx:List LineX→World→Prop)
 (hJ:∀ q A k,J q A→J q (A.drewN k))
 (hY:∀ pre x W,J pre W→pre.length < xs.length→YieldAt Fence.wide (n - 1) Tryz.prog l (encX x) W fun e W' =>
  (e=.returned (.bool true)∧J (pre++[x]) W'∧Below n₀ W W')∨(e=.returned (.bool false)∧Jx (pre++[x]) W'))
 (W:World) (hBn:W.cell? ⟨Bn,0,none⟩=some (.string s)) (h0:J [] W) :
 CallsIn Fence.wide n Tryz.prog 82 #[.func (.yield l) #[] #[],.pointer (some ⟨Bn,0,none⟩)] W fun e W'=>(∃ v,e=.returned v) ∧
  ((∃ ys,ys=xs∧J ys W')∨(∃ pre,pre <+: xs∧Jx pre W')):=by
 have hlen:1+xs.length≤30001:=by
  have h1:=congrArg List.length hxs
  rw [List.length_map,enumL_length] at h1
  have h2:=linesGo_length [] s.data.toList
  rw [size_list] at h2
  omega
 have HX:=Lib.hid hxs
 have HL:=Lib.hid hlen
 have HJ:=Lib.hid hJ
 have HY:=Lib.hid hY
 clear hxs hlen hJ hY
 refine callsIn_of_wp Tryz.func82 rfl trivial ?_ rfl
 simp only [Tryz.ntmps82,List.size_toArray,List.length_cons,List.length_nil,Nat.reduceAdd,Nat.reduceSub,Array.replicate_succ,Array.replicate_zero,List.push_toArray,List.append_toArray,List.nil_append,List.cons_append]
 gi_wp2
 gi_loopw [3,4,5] (fun s3 s4 s5 wr=>IterAt J xs s3 s4 s5 wr) (fun s3 s4 _ _=>restOf s3 s4)
 case atStart =>
  exact ⟨[],xs,s,true,1,rfl,rfl,rfl,rfl,fun _=>HX.out,(fun h=>by cases h),hs,HL.out,h0⟩
 case round =>
  obtain ⟨pre,post,r,m,k,rfl,rfl,rfl,hx,hm,hf,hr,hk,hJs⟩:=hrel
  cases m with
  | false =>
    obtain rfl:=hf rfl
    have HXX:=Lib.hid hx
    clear hx hm hf hk
    gi_wp2
    go_end0
    exact ⟨⟨_,rfl⟩,.inl ⟨pre,by rw [HXX.out];simp,hJs⟩⟩
  | true =>
    have hkb:k≤30001:=by omega
    replace hm:=hm rfl
    clear hf
    rcases cut_cases 10 r.data.toList with ⟨h1,h2⟩ | ⟨i,h1,h2,h3,h4⟩
    ·rw [linesGo_last _ h2] at hm
     obtain ⟨x,rfl⟩:∃ x,post=[x]:=by
      have:=congrArg List.length hm
      simp [enumL] at this
      exact List.length_eq_one_iff.1 this
     have hxp:x.pair=(k,r.data.toList):=by simpa [enumL] using hm
     have hxn:x.n=k:=congrArg Prod.fst hxp
     have hxl:mkB x.l=r:=by rw [show x.l=r.data.toList from congrArg Prod.snd hxp,mkB_list]
     obtain ⟨fn,tmps,assign,body,hy,hR⟩:=HY.out pre x wr hJs (by rw [hx];simp)
     unfold encX at hy
     rw [hxn,hxl] at hy
     have HXX:=Lib.hid hx
     have H:=Lib.hid h1
     have HK:=Lib.hid hk
     clear hx h1 h2 hm hxp hxn hxl hk
     gi_wp2_with (refine ⟨trivial,?_⟩;gi_at_call 83;refine (callsIn_wide.2 (cut_miss 10 r _ H.out)).mono ?_;rintro e w' ⟨rfl,rfl⟩)
     refine hR.mono ?_
     rintro e W3 (⟨rfl,hJ3,hk3⟩ | ⟨rfl,hJx3⟩)
     ·gi_wp2
      go_roundw
      case rel=>exact ⟨pre++[x],[],⟨#[]⟩,false,k+1,rfl,rfl,by simp,by rw [HXX.out];simp,(fun h=>by cases h),fun _=>rfl,by decide,by have:=HK.out;simp at this ⊢;omega,hJ3⟩
      case measure=>simp [restOf]
     ·gi_wp2
      refine bodyPost_ret (results_none rfl _ _ _) rfl ?_
      exact ⟨⟨_,rfl⟩,.inr ⟨pre++[x],⟨[],by rw [HXX.out];simp⟩,hJx3⟩⟩
    ·have hi:i < r.size:=by rw [←size_list];exact h2
     have hcut:linesGo [] r.data.toList=r.data.toList.take i::linesGo [] (r.data.toList.drop (i+1)):=by
      conv=>lhs;rw [h4]
      exact linesGo_cut _ _ h3
     rw [hcut] at hm
     obtain ⟨x,post',rfl⟩:∃ x post',post=x::post':=by
      cases post with
      | nil=>simp [enumL] at hm
      | cons x p=>exact ⟨x,p,rfl⟩
     simp only [enumL,List.map_cons,List.cons.injEq] at hm
     obtain ⟨hxp,hpost⟩:=hm
     have hxn:x.n=k:=congrArg Prod.fst hxp
     have hxl:mkB x.l=r.extract 0 i:=by rw [show x.l=_ from congrArg Prod.snd hxp,piece_ahead]
     obtain ⟨u,hu⟩:∃ u,r.extract 0 i=u:=⟨_,rfl⟩
     obtain ⟨v,hv⟩:∃ v,r.extract (i+1) r.size=v:=⟨_,rfl⟩
     rw [hu] at hxl
     have hvl:v.data.toList=r.data.toList.drop (i+1):=by rw [←hv,piece_behind,mkB_data]
     have hvs:v.size < r.size:=by rw [←size_list,hvl,List.length_drop,size_list];omega
     rw [←hvl] at hpost
     have HUV:=Lib.hid (And.intro hu hv)
     have HC:=Lib.hid (fun w=>cut_hit 10 r i w h1 hi (by unfold maxLen;omega))
     have HYY:=Lib.hid (fun q=>HY.out pre x (wr.drewN q) (HJ.out _ _ q hJs) (by rw [hx];simp))
     have HXX:=Lib.hid hx
     have HK:=Lib.hid hk
     have HP:=Lib.hid hpost
     have HN:=Lib.hid (And.intro hxn hxl)
     clear hx h1 h2 h3 h4 hcut hxp hxn hxl hk hpost hvl hu hv hi
     gi_wp2_with (refine ⟨trivial,?_⟩;gi_at_call 83;refine (callsIn_wide.2 (HC.out _)).mono ?_;rintro e w' ⟨rfl,q,rfl⟩;rw [HUV.out.1,HUV.out.2];obtain ⟨fn,tmps,assign,body,hy,hR⟩:=HYY.out q;unfold encX at hy;rw [HN.out.1,HN.out.2] at hy)
     refine hR.mono ?_
     rintro e W3 (⟨rfl,hJ3,hk3⟩ | ⟨rfl,hJx3⟩)
     ·gi_wp2
      go_roundw
      case rel=>exact ⟨pre++[x],post',v,true,k+1,rfl,rfl,by simp,by rw [HXX.out];simp,fun _=>HP.out,(fun h=>by cases h),by omega,by have:=HK.out;simp at this ⊢;omega,hJ3⟩
      case measure=>simp [restOf];omega
     ·gi_wp2
      refine bodyPost_ret (results_none rfl _ _ _) rfl ?_
      exact ⟨⟨_,rfl⟩,.inr ⟨pre++[x],⟨post',by rw [HXX.out];simp⟩,hJx3⟩⟩
set_option maxHeartbeats 1000000 in
theorem numbered_in (n:Nat) (s:ByteArray) (w:World) :
 CallsIn Fence.wide n Tryz.prog 46 #[.string s] w fun e w'=>e=.returned (.func (.func 82) #[] #[.pointer (some ⟨w.heap.size,0,none⟩)])∧w'=w.alloc (.cells #[.string s] 9):=by
 refine callsIn_of_wp Tryz.func46 rfl trivial ?_ rfl
 simp only [Tryz.ntmps46,List.size_toArray,List.length_cons,List.length_nil,Nat.reduceAdd,Nat.reduceSub,Array.replicate_succ,Array.replicate_zero,List.push_toArray,List.append_toArray,List.nil_append,List.cons_append]
 gi_wp2
 go_ret
 exact ⟨rfl,rfl⟩
theorem iter_stops (n:Nat) (hn:1≤n) (Bn n₀:Nat) (s:ByteArray) (hs:s.size≤20000) (xs:List LineX) (hxs:xs.map LineX.pair=enumL 1 (linesGo [] s.data.toList)) (w:World) (hBn:Bn < w.heap.size) (hc:w.cell? ⟨Bn,0,none⟩=some (.string s)) :
 SeqStopsK Fence.wide n Tryz.prog 82 #[.pointer (some ⟨Bn,0,none⟩)] encX (Below n₀) (fun ys=>ys=xs) (fun pre=>pre <+: xs) xs.length w:=fun l J Jx W hW hJ _ hY h0 =>
 iter_in n hn l Bn n₀ s hs xs hxs J Jx (fun q A k h=>hJ q A _ none h (grown_drewN A k) (fun r e=>by cases e)) hY W ((hW.cell (p:=⟨Bn,0,none⟩) hBn).trans hc) h0
end Go.Proofs.YthcpglnmhimepaaGreatDoor
end
section
namespace Go.Proofs.YthcpglnmhimepaaGreatDoor
open Go.RowKit Go.Shelf
attribute [local go_sem] Oper.semAt_some
def LinesPost (w:World) (L:List (Int × List ByteArray)) (c:Int) (e:Ending) (w':World):Prop :=
 ∃ v,e=.returned (.tuple #[v,.int .i64 c])∧LinesV w' v L∧Below w.heap.size w w'
theorem info_line:(Tryz.prog.info? 81).map (fun i=>(i.zero,i.size,i.bytes))=some (some (.agg #[.int .i64 0,.slice none 0 0]),2,32):=by kernel_rfl
theorem linE_big (l:List UInt8) (h:20000 < l.length):linE l=4∧linV l=[]:=by simp [linE,linV,h]
theorem linE_bad (l:List UInt8) (h:l.length≤20000) (ho:okL l=false):linE l=5∧linV l=[]:=by simp [linE,linV,Nat.not_lt.2 h,ho]
theorem linE_ok (l:List UInt8) (h:l.length≤20000) (ho:okL l=true):linE l=0∧linV l=linesL l:=by simp [linE,linV,Nat.not_lt.2 h,ho]
def linesOf (pre:List LineX):List (Int × List ByteArray):=asB (numP (pre.map LineX.pair))
theorem linesOf_hit (pre:List LineX) (x:LineX) (h:wordsL x.l≠[]):linesOf (pre++[x])=linesOf pre++[((x.n:Int),(wordsL x.l).map mkB)]:=by
 unfold linesOf
 rw [List.map_append,List.map_cons,List.map_nil,numP_hit _ _ (by exact h),asB_append]
 rfl
theorem linesOf_miss (pre:List LineX) (x:LineX) (h:wordsL x.l=[]):linesOf (pre++[x])=linesOf pre:=by
 unfold linesOf
 rw [List.map_append,List.map_cons,List.map_nil,numP_miss _ _ (by exact h)]
theorem linesOf_length (pre:List LineX):(linesOf pre).length≤pre.length:=by
 unfold linesOf
 rw [asB_length]
 have:=numP_length (pre.map LineX.pair)
 simpa using this
def LinesI (w:World) (pre:List LineX) (W:World):Prop :=
 ∃ v LV,Boxed W w.heap.size 78 v∧W.ownsRow w.heap.size 81 2 v LV.length (flatL LV)∧WordsOwn W w.heap.size 9 LV (linesOf pre)
theorem linesI_own (w:World):Own (LinesI w):=by
 rintro s X Y row ⟨v,LV,hv,hr,hw⟩ hg hrow
 refine ⟨v,LV,hv.kept hg (fun e'=>?_),row_uncells hr hg hrow,hw.mono fun u n xs hu=>row_uncells hu hg hrow⟩
 obtain ⟨o,ho,hc⟩:=hrow _ e'.symm
 rw [show X.heap[w.heap.size]?=_ from hv] at ho;cases ho;cases hc
theorem lines_big (s:ByteArray) (w:World) (h:20000 < s.size) (hs:s.size≤30000) :
 Calls Tryz.prog 23 #[.string s] w (LinesPost w [] 4):=by
 go_enter Tryz.func23,Tryz.ntmps23
 go_wp2
 go_ret2
 exact ⟨_,rfl,LinesV.nil _,Below.refl _ _⟩
theorem lines_bad (s:ByteArray) (w:World) (hs:s.size≤20000) (ho:okL s.data.toList=false) :
 Calls Tryz.prog 23 #[.string s] w (LinesPost w [] 5):=by
 have HO:=Lib.hid ho
 have HS:Hid (s.size≤maxLen):=Lib.hid (by unfold maxLen;omega)
 clear ho
 have h1:¬ 20000 < s.size:=by omega
 go_enter Tryz.func23,Tryz.ntmps23
 go_wp2_with fail
 refine (readable_any s _ HS.out).mono ?_
 rintro e w' ⟨rfl,rfl⟩
 rw [HO.out]
 go_wp2
 go_ret2
 exact ⟨_,rfl,LinesV.nil _,Below.refl _ _⟩
set_option maxRecDepth 100000 in
set_option maxHeartbeats 2000000 in
theorem lines_good (s:ByteArray) (w:World) (hs:s.size≤20000) (ho:okL s.data.toList=true) :
 Calls Tryz.prog 23 #[.string s] w (LinesPost w (asB (linesL s.data.toList)) 0):=by
 have hall:=linesGo_all okB [] s.data.toList rfl ho
 have hlen:=linesGo_length [] s.data.toList
 have hsl:=size_list s
 obtain ⟨xs,hxs⟩:=linesX (linesGo [] s.data.toList) 1 (by omega) fun x hx=>⟨(hall x hx).1,by have:=(hall x hx).2;simp at this;omega⟩
 have hres:linesOf xs=asB (linesL s.data.toList):=by unfold linesOf linesL;rw [hxs]
 have hxl:xs.length≤20001:=by
  have h1:=congrArg List.length hxs
  rw [List.length_map,enumL_length] at h1
  omega
 rw [←hres]
 have HX:=Lib.hid hxs
 have HO:=Lib.hid ho
 have HS:Hid (s.size≤maxLen):=Lib.hid (by unfold maxLen;omega)
 have HXL:=Lib.hid hxl
 clear hall hlen hsl hxs hres ho hxl
 have h1:¬ 20000 < s.size:=by omega
 obtain ⟨i0,hi,hz0,hz1,hz2⟩:=info_parts info_line
 have HI:=Lib.hid (And.intro hi (And.intro hz0 (And.intro hz1 hz2)))
 clear hi hz0 hz1 hz2
 refine (callsIn_wide (n:=3)).1 ?_
 refine callsIn_of_wp_marks Tryz.func23 rfl trivial ?_ rfl
 simp only [Tryz.ntmps23,List.size_toArray,List.length_cons,List.length_nil,Nat.reduceAdd,Nat.reduceSub,Array.replicate_succ,Array.replicate_zero,List.push_toArray,List.append_toArray,List.nil_append,List.cons_append]
 gi_wp2_with (first
  | (refine ⟨trivial,?_⟩;gi_at_call 45;refine (callsIn_wide.2 (readable_any s _ HS.out)).mono ?_;rintro e w' ⟨rfl,rfl⟩;rw [HO.out])
  | (refine ⟨trivial,?_⟩;gi_at_call 46;refine (numbered_in _ s _).mono ?_;rintro e w' ⟨rfl,rfl⟩))
 have bO:=Boxed.new w 78 (.slice none 0 0)
 have bN:=Boxed.new (w.alloc (.cells #[.slice none 0 0] 78)) 9 (.string s)
 rw [World.size_alloc] at bN
 have hB0:Below w.heap.size w ((w.alloc (.cells #[.slice none 0 0] 78)).alloc (.cells #[.string s] 9)):=((Below.refl _ w).alloc (Nat.le_refl _) _).alloc (by simp) _
 refine wpIn_rangeFunc_ownG rfl (by decide) (gf:=82) (lb:=#[.pointer (some ⟨w.heap.size+1,0,none⟩)]) rfl trivial (enters_of Tryz.func82 (by kernel_rfl) rfl)
  (iter_stops 2 (by decide) (w.heap.size+1) w.heap.size s hs xs HX.out _ (by simp) bN.cell) belowK_t (belowK_b (by simp;omega)) (Below.refl _ _) (fun _=>rfl)
  (fun pre W=>LinesI w pre W∧Below w.heap.size w W)
  (fun _ _ _=>False)
  (OwnFrom.and (Own.from (linesI_own w) _) (ownFrom_below (Nat.le_refl _) (by simp;omega)))
  (fun _ _ _ _ _ hs _ _=>hs)
  ⟨⟨_,[],bO.alloc _,World.ownsRow_nil _ _ _ _,WordsOwn.nil _ _ _⟩,hB0⟩
  (fun x=>{ tmps:=#[.string s,undef,.slice none 0 0,.int .i64 0,.pointer (some ⟨w.heap.size,0,none⟩),.int .i64 (x.n:Int),.string (mkB x.l),undef,.string s,.int .i64 (s.size:Int),.bool (decide ((20000:Int) < (s.size:Int))),.string s,.bool true,.bool false,.string s,.func (.func 82) #[] #[.pointer (some ⟨w.heap.size+1,0,none⟩)],.int .i64 (x.n:Int),.string (mkB x.l),undef,undef,undef,undef,undef,undef,undef,undef,undef,undef,undef,undef],defers:=[] }) ?assign ?body ?done ?stop
 case assign =>
  intro l x W K hK
  simp only [encX]
  gi_wp2
  exact hK
 case body =>
  rintro l pre x W ⟨⟨v,LV,hv,hrow,hw⟩,hB⟩ hlt
  have hWd:∀ W,Calls Tryz.prog 47 #[.string (mkB x.l)] W (WordsPost W ((wordsL x.l).map mkB)):=fun W=>by
   have:=wordsOf_any (mkB x.l) W (by rw [mkB_size];have:=x.2.2.1;show x.1.2.length≤_;omega) (fun c hc=>by
    rw [mkB_data] at hc
    have:=List.all_eq_true.1 x.2.2.2 c hc
    rw [okB_dec] at this
    have:=of_decide_eq_true this
    omega)
   rwa [mkB_data] at this
  have hpl:LV.length≤pre.length:=by rw [hw.1];exact linesOf_length pre
  have hll:LV.length≤20001:=by have:=HXL.out;omega
  have HH:=linesOf_hit pre x
  have HM:=linesOf_miss pre x
  by_cases hws:wordsL x.l=[]
  ·have HE:=Lib.hid (HM hws)
   rw [hws] at hWd
   have HW:=Lib.hid hWd
   clear hWd HH HM hws hpl hll
   gi_wp2_with (refine ⟨trivial,?_⟩;gi_at_call 47;refine (CallsIn.inRound l (callsIn_wide.2 (HW.out _))).mono ?_;rintro e W1 ⟨A,rfl,hA,ho,hb⟩;simp only [List.map_nil,List.length_nil])
   exact ⟨keepsFrom_below _ hb,hb.mono hB.size,⟨v,LV,boxed_below hv hb,row_below hrow hb,by rw [HE.out];exact hw.mono fun u n xs hu=>row_below hu hb⟩,hB.trans (hb.mono hB.size)⟩
  ·have HE:=Lib.hid (HH hws)
   have hpos:0 < ((wordsL x.l).map mkB).length:=by rw [List.length_map];exact List.length_pos_iff.2 hws
   obtain ⟨ws,hwsd⟩:∃ ws,(wordsL x.l).map mkB=ws:=⟨_,rfl⟩
   rw [hwsd] at hWd hpos HE
   have HW:=Lib.hid hWd
   clear hWd HH HM hws hpl hwsd
   gi_wp2_with (first
    | (refine ⟨trivial,?_⟩;gi_at_call 47;refine (CallsIn.inRound l (callsIn_wide.2 (HW.out _))).mono ?_;rintro e W1 ⟨A,rfl,hA,ho,hb⟩;have hv1:=boxed_below hv hb;have hc1:=hv1.cell;have hrow1:=row_below hrow hb;have hw1:Hid _:=Lib.hid (hw.mono fun u n xs hu=>row_below hu hb);have hsz:w.heap.size≤W1.heap.size:=Nat.le_trans hB.size hb.size)
    | (gi_at_builtin;refine wpListIn_append_own _ rfl _ _ 78 rfl w.heap.size 81 i0 (.agg #[.int .i64 0,.slice none 0 0]) 2 32 Tryz.underlying78 HI.out.1 HI.out.2.1 HI.out.2.2.1 HI.out.2.2.2 rfl (by decide) _ _ _ rfl (hrow1.alloc _) ⟨W1.heap.size,0,none⟩ 1 1 [.int .i64 (x.n:Int),.slice (some ⟨A,0,none⟩) ws.length ws.length] rfl rfl (cell_two_new' _ _ _ _) (by intro u hu;simp at hu;rcases hu with rfl | rfl <;> rfl) (by unfold maxLen;omega) (by omega) (by simp;omega) ?_;intro v' w1 hown' hgrow _;obtain ⟨g',cap',rfl⟩:=ownsRow_succ hown';obtain ⟨hv2,hv3,hr3,hk3,hb3⟩:=hv1.appended (by decide) hrow1 hsz (Nat.le_refl _) hown' hgrow;have hc2:=hv2.cell;have hf2:=hv2.frozen))
   have hK9:∀ (u:Value) (n:Nat) (xs:List Value),W1.ownsRow w.heap.size 9 1 u n xs→(w1.setCell ⟨w.heap.size,0,none⟩ (.slice (some ⟨g',0,none⟩) (LV.length+1) cap')).ownsRow w.heap.size 9 1 u n xs:=fun u n xs hu=>by
    have hu1:=(hu.alloc (.cells #[.int .i64 (x.n:Int),.slice (some ⟨A,0,none⟩) ws.length ws.length] 81)).kept hgrow (row_apart hrow1 hu (by decide))
    exact hu1.kept (grownBy_setCell' w1 w.heap.size _) (.inr (hv2.not_row (by decide) hu1).symm)
   refine ⟨(keepsFrom_below _ hb).trans (hk3.from _),(hb.mono hB.size).trans hb3,⟨_,LV++[((x.n:Int),.slice (some ⟨A,0,none⟩) ws.length ws.length)],hv3,?_,?_⟩,hB.trans ((hb.mono hB.size).trans hb3)⟩
   ·rw [flatL_snoc,List.length_append]
    exact hr3
   ·rw [HE.out]
    exact (hw1.out.mono hK9).snoc _ _ _ (hK9 _ _ _ (row_base ho hB.size))
 case done =>
  rintro D ys W hD rfl ⟨⟨v,LV,hv,hrow,hw⟩,hB⟩ hK
  have hc:=hv.cell
  have hL:=Lib.hid (fun W' (h1:W'.ownsRow w.heap.size 81 2 v LV.length (flatL LV)) (h2:WordsOwn W' w.heap.size 9 LV (linesOf ys))=>lines_of_in h1 h2.isIn)
  gi_wp2
  refine ⟨by simp,.inl ⟨_,_,rfl,run_takeDeferred hK,?_⟩⟩
  refine ⟨.tuple #[v,.int .i64 0],by simp [results,Tryz.results23,go_sem],v,rfl,hL.out _ (ownsRow_putObj hrow _ hK rfl) (hw.mono fun u n xs hu=>ownsRow_putObj hu _ hK rfl),hB.trans (belowK_b (w:=w) (Nat.le_refl _) W D _ _ (by simp at hD;omega) hK rfl rfl)⟩
 case stop =>
  rintro D c pre W _ _ h _
  exact h.elim
theorem lines_any (s:ByteArray) (w:World) (hs:s.size≤30000) :
 Calls Tryz.prog 23 #[.string s] w (LinesPost w (asB (linV s.data.toList)) (linE s.data.toList)):=by
 have hl:=size_list s
 by_cases h:20000 < s.size
 ·obtain ⟨e1,e2⟩:=linE_big s.data.toList (by omega)
  rw [e1,e2]
  exact lines_big s w h hs
 ·cases ho:okL s.data.toList with
  | false =>
    obtain ⟨e1,e2⟩:=linE_bad s.data.toList (by omega) ho
    rw [e1,e2]
    exact lines_bad s w (by omega) ho
  | true =>
    obtain ⟨e1,e2⟩:=linE_ok s.data.toList (by omega) ho
    rw [e1,e2]
    exact lines_good s w (by omega) ho
end Go.Proofs.YthcpglnmhimepaaGreatDoor
end
section
namespace Go.Proofs.YthcpglnmhimepaaGreatDoor.Cs
open Go.RowKit Go.Proofs.YthcpglnmhimepaaGreatDoor.Un Go.Proofs.YthcpglnmhimepaaGreatDoor.Pk
abbrev Key3:=ByteArray × ByteArray × ByteArray
def encT:Enc Key3 where
 cs k:=[.string k.1,.string k.2.1,.string k.2.2]
 k:=3
 len _:=rfl
 pos:=by decide
 one:=by intro x v hv;simp at hv;rcases hv with rfl | rfl | rfl <;> rfl
abbrev aggT (k:Key3):Value:=.agg #[.string k.1,.string k.2.1,.string k.2.2]
theorem key3 {w:World} {b o:Nat} {k:Key3} (h:ElAt encT w b o k):w.cell? ⟨b,o,none⟩=some (.string k.1)∧w.cell? ⟨b,o+1,none⟩=some (.string k.2.1)∧w.cell? ⟨b,o+2,none⟩=some (.string k.2.2):=⟨h 0 _ rfl,h 1 _ rfl,h 2 _ rfl⟩
def orL:List Int→Int
 | []=>0
 | a::r=>if a=0 then orL r else a
def cmpT (x y:Key3):Int:=orL [Fl.cmpB x.1 y.1,Fl.cmpB x.2.1 y.2.1,Fl.cmpB x.2.2 y.2.2]
theorem orL3 (a b c:Int):orL [a,b,c]=if a=0 then (if b=0 then c else b) else a:=by
 simp only [orL]
 (repeat' split) <;> first | rfl | omega
theorem cmpT_lt (x y:Key3):decide (cmpT x y < 0)=G.KeyO.lt x y:=by
 show _=ltT x y
 unfold cmpT ltT G.ltP
 rw [orL3]
 by_cases h:Fl.cmpB x.1 y.1=0
 ·have e:=(cmpB_zero _ _).1 h
  rw [if_pos h]
  simp only [e,ltS_irr,decide_true,Bool.false_or,Bool.true_and]
  by_cases h2:Fl.cmpB x.2.1 y.2.1=0
  ·have e2:=(cmpB_zero _ _).1 h2
   rw [if_pos h2,Fl.cmpB_lt]
   simp only [e2,ltS_irr,decide_true,Bool.false_or,Bool.true_and]
  ·have e2:x.2.1≠y.2.1:=fun e=>h2 ((cmpB_zero _ _).2 e)
   rw [if_neg h2,Fl.cmpB_lt]
   simp only [e2,decide_false,Bool.false_and,Bool.or_false]
 ·have e:x.1≠y.1:=fun e=>h ((cmpB_zero _ _).2 e)
  rw [if_neg h,Fl.cmpB_lt]
  simp only [e,decide_false,Bool.false_and,Bool.or_false]
theorem cmpT_eq (x y:Key3):(cmpT x y==0)=decide (x=y):=by
 rw [Bool.eq_iff_iff,beq_iff_eq,decide_eq_true_eq]
 unfold cmpT
 rw [orL3,Prod.ext_iff,Prod.ext_iff]
 by_cases h:Fl.cmpB x.1 y.1=0
 ·have e:=(cmpB_zero _ _).1 h
  rw [if_pos h]
  by_cases h2:Fl.cmpB x.2.1 y.2.1=0
  ·have e2:=(cmpB_zero _ _).1 h2
   rw [if_pos h2,cmpB_zero]
   exact ⟨fun e3=>⟨e,e2,e3⟩,fun e3=>e3.2.2⟩
  ·rw [if_neg h2]
   exact ⟨fun e=>absurd e h2,fun e=>absurd ((cmpB_zero _ _).2 e.2.1) h2⟩
 ·rw [if_neg h]
  exact ⟨fun e=>absurd e h,fun e=>absurd ((cmpB_zero _ _).2 e.1) h⟩
theorem orL_step (l:List Int) (k:Nat) (x:Int) (h:l[k]?=some x):orL (l.drop k)=if x=0 then orL (l.drop (k+1)) else x:=by
 rw [List.drop_eq_getElem?_toList_append]
 simp [h,orL]
set_option maxHeartbeats 1000000 in
theorem orL_any (l:List Int) (n:Nat) (b:Nat) (w:World) (hn:l.length=n) (hb:n < 100) (hc:∀ (i:Nat) x,l[i]?=some x→w.cell? ⟨b,i,none⟩=some (.int .i64 x)) :
 Calls Tryz.prog 98 #[.slice (some ⟨b,0,none⟩) n n] w fun e w'=>e=.returned (.int .i64 (orL l))∧w'=w:=by
 have HC:=Lib.hid hc
 have HN:=Lib.hid hn
 clear hc hn
 obtain ⟨r,hr⟩:∃ r,orL l=r:=⟨_,rfl⟩
 rw [hr]
 have HR:=Lib.hid hr
 clear hr
 go_enter Tryz.func98,Tryz.ntmps98
 go_wp2
 go_loop [8] (fun i=>∃ k:Nat,k≤n∧i=.int .i64 k∧Hid (orL (l.drop k)=r)) (fun i=>n - (intOf i).toNat)
 case atStart=>exact ⟨0,Nat.zero_le _,rfl,HR⟩
 case round =>
  obtain ⟨k,hk,rfl,HK⟩:=hrel
  by_cases hlt:k < n
  ·obtain ⟨x,hx⟩:∃ x,l[k]?=some x:=⟨_,List.getElem?_eq_getElem (by rw [HN.out];exact hlt)⟩
   have c0:=HC.out k x hx
   have HS:=Lib.hid (orL_step l k x hx)
   clear hx
   by_cases h0:x=0
   ·subst h0
    go_wp2
    go_round
    case rel=>exact ⟨k+1,by omega,by go_num,by rw [←HK.out,HS.out,if_pos rfl];exact Lib.hid rfl⟩
    case measure=>simp [intOf];omega
   ·obtain rfl:x=r:=by rw [←HK.out,HS.out,if_neg h0]
    go_wp2
    go_ret
    exact ⟨rfl,rfl⟩
  ·obtain rfl:r=0:=by
    have e:l.drop k=[]:=List.drop_of_length_le (by rw [HN.out];omega)
    rw [←HK.out,e];rfl
   go_wp2
   go_ret
   exact ⟨rfl,rfl⟩
theorem three_new (w:World) (t:TypeId) (a b c:Int) (i:Nat) (x:Int) (hx:[a,b,c][i]?=some x):(w.alloc (.cells #[.int .i64 a,.int .i64 b,.int .i64 c] t)).cell? ⟨w.heap.size,i,none⟩=some (.int .i64 x):=by
 rw [cell_of_row _ w.heap.size i _ t (0,0) (heap_alloc_new w _)]
 match i,hx with
 | 0,hx=>simp at hx;subst hx;rfl
 | 1,hx=>simp at hx;subst hx;rfl
 | 2,hx=>simp at hx;subst hx;rfl
set_option maxHeartbeats 4000000 in
set_option maxRecDepth 100000 in
theorem against_any (x:Crs) (y:Key3) (w:World) :
 Calls Tryz.prog 61 #[aggX x,aggT y] w fun e w'=>e=.returned (.int .i64 (cmpT x.key y))∧Below w.heap.size w w':=by
 obtain ⟨r,hr⟩:∃ r,cmpT x.key y=r:=⟨_,rfl⟩
 have hA:orL [Fl.cmpB x.sort y.1,Fl.cmpB x.flw y.2.1,Fl.cmpB x.cur y.2.2]=r:=hr
 rw [hr]
 have HA:=Lib.hid hA
 clear hr hA
 have HB0:=Lib.hid (((Below.refl w.heap.size w).alloc (Nat.le_refl _) (.cells (encX.cs x).toArray 85)).alloc (by simp) (.cells (encT.cs y).toArray 83))
 obtain ⟨W1,hW1⟩:∃ W1,(w.alloc (.cells #[.string x.sort,.string x.flw,.string x.cur,.int .i64 x.num,.int .i64 x.den] 85)).alloc (.cells #[.string y.1,.string y.2.1,.string y.2.2] 83)=W1:=⟨_,rfl⟩
 obtain ⟨W2,hW2⟩:∃ W2,W1.drew=W2:=⟨_,rfl⟩
 have bx:BoxE encX W2 w.heap.size 85 x:=by
  rw [←hW2,←hW1]
  have hb:=(Below.refl (w.alloc (.cells (encX.cs x).toArray 85)).heap.size (w.alloc (.cells (encX.cs x).toArray 85))).alloc (Nat.le_refl _) (.cells (encT.cs y).toArray 83)
  exact (BoxE.new encX w x 85).kept ⟨hb.os,hb.tape,hb.output,hb.size,hb.block⟩
 have bY:BoxE encT W2 (w.heap.size+1) 83 y:=by
  rw [←hW2,←hW1]
  have:=BoxE.new encT (w.alloc (.cells (encX.cs x).toArray 85)) y 83
  rw [World.size_alloc] at this
  exact this
 have HB2:Hid (Below w.heap.size w W2):=Lib.hid (by
  rw [←hW2,←hW1]
  exact ⟨HB0.out.os,HB0.out.tape,HB0.out.output,HB0.out.size,HB0.out.block⟩)
 obtain ⟨k0,k1,k2,k3,k4⟩:=crs5 bx.at0
 obtain ⟨j0,j1,j2⟩:=key3 bY.at0
 simp only [Nat.zero_add] at k0 k1 k2 j0 j1 j2
 clear bx bY k3 k4 HB0
 go_enter Tryz.func61,Tryz.ntmps61
 go_wp2_with fail
 refine wp_region_still_tail 18 (by kernel_rfl) (by kernel_rfl) ?_
 simp only [List.take_succ_cons,List.take_zero,List.drop_succ_cons,List.drop_zero]
 rw [show ({ heap:=W1.heap,tape:=W1.tape,drawn:=W1.drawn+1,os:=W1.os,output:=W1.output }:World)=W2 from hW2]
 clear hW1 hW2
 repeat still_step
 still_call (Fl.compare_any _ _ _)
 repeat still_step
 still_call (Fl.compare_any _ _ _)
 repeat still_step
 still_call (Fl.compare_any _ _ _)
 refine wpStill_nil ?_
 go_wp2_with (go_at_call 98;refine (orL_any _ 3 _ _ rfl (by decide) (three_new _ _ _ _ _)).mono ?_;rintro e w' ⟨rfl,rfl⟩)
 go_ret
 exact ⟨by rw [←HA.out];rfl,HB2.out.alloc HB2.out.size _⟩
end Go.Proofs.YthcpglnmhimepaaGreatDoor.Cs
end
section
namespace Go.Proofs.YthcpglnmhimepaaGreatDoor.Pk
open Go.RowKit Go.Proofs.YthcpglnmhimepaaGreatDoor.Un
theorem shapes {w:World} {c f e l:Value} {M:Mast} (h:MastIn w c f e l M):∃ pc cc pf cf pe ce pl cl,c=.slice pc M.chart.length cc∧f=.slice pf M.flows.length cf∧e=.slice pe M.ents.length ce∧l=.slice pl M.lines.length cl:=by
 obtain ⟨p0,k0,e0,_⟩:=h.chart
 obtain ⟨p1,k1,e1,_⟩:=h.flows
 obtain ⟨p2,k2,e2,_⟩:=h.ents
 obtain ⟨p3,k3,e3,_⟩:=h.lines
 exact ⟨_,_,_,_,_,_,_,_,e0,e1,e2,e3⟩
theorem kind_of_find {L:List Fl.Flow} (hr:riseK Fl.Flow.code L=true) (c:ByteArray):Fl.kindL L c=((Fl.findF L c).getD Fl.zeroF).kind:=by
 unfold Fl.kindL
 obtain ⟨h1,h2⟩:=isK_find hr c
 cases hi:isK Fl.Flow.code L c with
 | true=>rw [if_pos rfl,h2 hi]
 | false =>
   rw [hi] at h1
   rw [if_neg (by simp)]
   unfold Fl.findF
   cases hf:findK Fl.Flow.code L c with
   | none=>rfl
   | some y=>rw [hf] at h1;cases h1
end Go.Proofs.YthcpglnmhimepaaGreatDoor.Pk
end
section
namespace Go.Proofs.YthcpglnmhimepaaGreatDoor.Un
open Go.RowKit
def kindO' (o:Option Fl.Flow):Int:=(o.getD Fl.zeroF).kind
theorem findK_first {α:Type} {key:α→ByteArray} {L:List α} {c:ByteArray} {i:Nat} {x:α} (hb:∀ (j:Nat) (y:α),j < i→L[j]?=some y→key y≠c) (hx:L[i]?=some x) (h:key x=c):findK key L c=some x:=by
 induction L generalizing i with
 | nil=>simp at hx
 | cons a L ih =>
   cases i with
   | zero =>
     simp at hx;subst hx
     simp only [findK];rw [if_pos h]
   | succ i =>
     simp only [findK]
     rw [if_neg (hb 0 a (Nat.succ_pos _) rfl)]
     refine ih (i:=i) (fun j y hj hy=>hb (j+1) y (by omega) (by simpa using hy)) (by simpa using hx)
theorem findK_nowhere {α:Type} {key:α→ByteArray} {L:List α} {c:ByteArray} (h:∀ (j:Nat) (y:α),L[j]?=some y→key y≠c):findK key L c=none :=
 findK_none fun y hy e=>by
  obtain ⟨j,hj,rfl⟩:=List.getElem_of_mem hy
  exact h j _ (List.getElem?_eq_getElem hj) e
set_option maxRecDepth 100000 in
set_option maxHeartbeats 2000000 in
theorem rkind_any (v:Value) (L:List Fl.Flow) (code:ByteArray) (w:World) (h:Fl.FlowsV w v L) :
 Calls Tryz.prog 36 #[v,.string code] w fun e w'=>e=.returned (.tuple #[.int .i64 (kindO' (Fl.findF L code)),.bool (Fl.findF L code).isSome])∧Below w.heap.size w w':=by
 obtain ⟨a,c,rfl,hcap,hm,_,hc⟩:=h
 obtain ⟨n,hn⟩:∃ n,L.length=n:=⟨_,rfl⟩
 obtain ⟨r,hr⟩:∃ r,Fl.findF L code=r:=⟨_,rfl⟩
 rw [hn] at hcap ⊢
 rw [hr]
 have HC:=Lib.hid hc
 have HN:=Lib.hid hn
 have HR:=Lib.hid hr
 unfold maxLen at hm
 clear hc hn hr
 obtain ⟨R,hR⟩:∃ R,kindO' r=R:=⟨_,rfl⟩
 obtain ⟨S,hS⟩:∃ S,r.isSome=S:=⟨_,rfl⟩
 rw [hR,hS]
 have HRV:=Lib.hid hR
 have HSV:=Lib.hid hS
 clear hR hS
 go_enter Tryz.func36,Tryz.ntmps36
 go_wp2
 go_loopw [6] (fun s6 wr=>∃ i:Nat,i≤n∧s6=.int .i64 (i:Int)∧Below w.heap.size w wr∧Hid (∀ (j:Nat) (y:Fl.Flow),j < i→L[j]?=some y→y.code≠code)) (fun s6 _=>n - (intOf s6).toNat)
 case atStart=>exact ⟨0,Nat.zero_le _,rfl,Below.refl _ _,Lib.hid fun j y hj=>absurd hj (Nat.not_lt_zero _)⟩
 case round =>
  obtain ⟨i,hi,rfl,hnx,HNO⟩:=hrel
  by_cases hlt:i < n
  ·obtain ⟨x,hx⟩:∃ x,L[i]?=some x:=⟨_,List.getElem?_eq_getElem (by rw [HN.out];exact hlt)⟩
   obtain ⟨b,o,rfl,hat⟩:=HC.out i x hx
   obtain ⟨c0,c1⟩:=Fl.two (hat.keep hnx hat.lt)
   have HX:=Lib.hid hx
   have HNX:=Lib.hid hnx
   clear hx hat hnx
   cases hxe:(x.code.toList==code.toList) with
   | false =>
     have HXE:=Lib.hid ((Lib.bytes_beq_false_iff x.code code).1 hxe)
     go_wp2
     go_roundw
     case rel=>exact ⟨i+1,by omega,by go_num,HNX.out,Lib.hid fun j y hj hy=>by
      rcases Nat.lt_or_ge j i with h | h
      ·exact HNO.out j y h hy
      ·obtain rfl:j=i:=by omega
       rw [HX.out] at hy;cases hy;exact HXE.out⟩
     case measure=>simp [intOf];omega
   | true =>
     have HXE:=Lib.hid ((Lib.bytes_beq_iff x.code code).1 hxe)
     have hres:Hid (r=some x):=Lib.hid (by rw [←HR.out];exact findK_first HNO.out HX.out HXE.out)
     go_wp2
     go_ret2
     rw [←HRV.out,←HSV.out,hres.out]
     exact ⟨rfl,HNX.out⟩
  ·have hres:Hid (r=none):=Lib.hid (by
    rw [←HR.out]
    refine findK_nowhere fun j y hy=>HNO.out j y ?_ hy
    have:=(List.getElem?_eq_some_iff.1 hy).1
    rw [HN.out] at this;omega)
   have HNX:=Lib.hid hnx
   go_wp2
   go_ret2
   rw [←HRV.out,←HSV.out,hres.out]
   exact ⟨rfl,HNX.out⟩
set_option maxRecDepth 100000 in
set_option maxHeartbeats 2000000 in
theorem rwhole_any (v:Value) (L:List Fl.Flow) (w:World) (h:Fl.FlowsV w v L) (hL:L.length≤1000) :
 Calls Tryz.prog 80 #[v] w fun e w'=>e=.returned (.bool (Fl.wholeTo L 5))∧Below w.heap.size w w':=by
 have HV:=Lib.hid h
 obtain ⟨R,hR⟩:∃ R,Fl.wholeTo L 5=R:=⟨_,rfl⟩
 rw [hR]
 have HR:=Lib.hid hR
 have HLL:=Lib.hid hL
 obtain ⟨p,c,rfl,hcap,hm,_,hc⟩:=h
 obtain ⟨n,hn⟩:∃ n,L.length=n:=⟨_,rfl⟩
 rw [hn] at hcap HV ⊢
 unfold maxLen at hm
 clear hc hR hL hn
 go_enter Tryz.func80,Tryz.ntmps80
 go_wp2
 go_loopw [3] (fun s3 wr=>∃ k:Nat,k≤5∧s3=.int .i64 (k:Int)∧Hid (Below w.heap.size w wr)∧Hid (Fl.wholeTo L k=true)) (fun s3 _=>5 - (intOf s3).toNat)
 case atStart=>exact ⟨0,by omega,rfl,Lib.hid (Below.refl _ _),Lib.hid rfl⟩
 case round =>
  obtain ⟨k,hk,rfl,HNX,HW⟩:=hrel
  by_cases h5:k < 5
  ·have hk5:decide ((k:Int) < 5)=true:=decide_eq_true (by omega)
   by_cases h1:k=1
   ·subst h1
    have HW2:Hid (Fl.wholeTo L 2=true):=Lib.hid (by rw [Fl.wholeTo,HW.out];rfl)
    go_wp2
    go_roundw
    case rel=>exact ⟨2,by omega,by go_num,HNX,HW2⟩
    case measure=>simp [intOf]
   ·have hk1:((k:Int) != 1)=true:=by simp;omega
    have HOF:=Lib.hid (Fl.rof_any (.slice p n c) L (k:Int) wr (HV.out.keep HNX.out) HLL.out)
    obtain ⟨m,hmm⟩:∃ m,(Fl.ofF L (k:Int)).length=m:=⟨_,rfl⟩
    have HMM:=Lib.hid hmm
    have HMB:Hid (m≤1000):=Lib.hid (by rw [←hmm];exact Nat.le_trans (Fl.ofF_len_le L _) HLL.out)
    have HWN:Hid (Fl.wholeTo L (k+1)=decide (m=1)):=Lib.hid (by rw [Fl.wholeTo,HW.out,decide_eq_false (p:=(k:Int)=1) (by omega),hmm];rfl)
    clear hmm
    go_wp2_with fail
    refine HOF.out.mono ?_
    rintro en w1 ⟨v1,rfl,⟨p1,c1,rfl,_,hm1,_⟩,hb1⟩
    rw [HMM.out] at hm1 ⊢
    have HNX1:=Lib.hid (HNX.out.trans (hb1.mono HNX.out.size))
    have hmb:=HMB.out
    clear hb1
    by_cases hm0:m=1
    ·subst hm0
     go_wp2
     go_roundw
     case rel=>exact ⟨k+1,by omega,by go_num,HNX1,Lib.hid (by rw [HWN.out];rfl)⟩
     case measure=>simp [intOf];omega
    ·have hmz:((m:Int) != 1)=true:=by simp;omega
     have HRF:Hid (R=false):=Lib.hid (by
      rw [←HR.out]
      have h0:Fl.wholeTo L (k+1)=false:=by rw [HWN.out];exact decide_eq_false hm0
      have hstep:∀ q,Fl.wholeTo L q=false→Fl.wholeTo L (q+1)=false:=fun q hq=>by rw [Fl.wholeTo,hq];rfl
      rcases (by omega:k=0∨k=1∨k=2∨k=3∨k=4) with rfl | rfl | rfl | rfl | rfl
      ·exact hstep _ (hstep _ (hstep _ (hstep _ h0)))
      ·exact hstep _ (hstep _ (hstep _ h0))
      ·exact hstep _ (hstep _ h0)
      ·exact hstep _ h0
      ·exact h0)
     go_wp2
     go_ret
     exact ⟨ret_bool HRF.out.symm,HNX1.out⟩
  ·obtain rfl:k=5:=by omega
   have HRF:Hid (R=true):=Lib.hid (by rw [←HR.out,HW.out])
   go_wp2
   go_ret
   exact ⟨ret_bool HRF.out.symm,HNX.out⟩
end Go.Proofs.YthcpglnmhimepaaGreatDoor.Un
end
section
namespace Go.Proofs.YthcpglnmhimepaaGreatDoor.Un
open Go.RowKit
set_option maxRecDepth 100000 in
set_option maxHeartbeats 4000000 in
theorem single_any (a b:ByteArray) (w:World):Calls Tryz.prog 122 #[.string a,.string b] w fun en w'=>en=.returned (.tuple #[.string (if a=emp then b else a),.int .i64 (oneE a)])∧w'=w:=by
 by_cases h:a=emp
 ·subst h
  have e:oneE emp=0:=by simp [oneE]
  rw [e,if_pos rfl]
  go_enter Tryz.func122,Tryz.ntmps122
  go_wp2
  go_ret2
  exact ⟨rfl,rfl⟩
 ·have e:oneE a=7:=by simp [oneE,h]
  rw [e,if_neg h]
  have hn:(!a.toList.isEmpty)=true:=(neB_iff a).2 h
  go_enter Tryz.func122,Tryz.ntmps122
  go_wp2
  go_ret2
  exact ⟨rfl,rfl⟩
set_option maxRecDepth 100000 in
set_option maxHeartbeats 4000000 in
theorem rnames_any (v:Value) (ws:List ByteArray) (w:World) (h:StrsV w v ws):Calls Tryz.prog 119 #[v] w fun en w'=>en=.returned (.bool (namesW ws))∧w'=w:=by
 obtain ⟨p,c,rfl,hcap,hm,hc⟩:=h
 obtain ⟨n,hn⟩:∃ n,ws.length=n:=⟨_,rfl⟩
 obtain ⟨R,hR⟩:∃ R,namesW ws=R:=⟨_,rfl⟩
 rw [hR]
 have HR:Hid ((ws.drop 1).all nmB=R):=Lib.hid hR
 rw [hn] at hcap hm ⊢
 have HN:=Lib.hid hn
 have HC:=Lib.hid hc
 unfold maxLen at hm
 clear hc hn hR
 go_enter Tryz.func119,Tryz.ntmps119
 go_wp2
 go_loopw [3] (fun s3 wr=>∃ i:Nat,i≤n∧s3=.int .i64 ((i:Int)+1)∧wr=w∧Hid (SoFar nmB (ws.drop 1) i)) (fun s3 _=>n+1 - (intOf s3).toNat)
 case atStart=>exact ⟨0,Nat.zero_le _,rfl,rfl,Lib.hid (SoFar.zero _ _)⟩
 case round =>
  obtain ⟨i,hi,rfl,rfl,HS⟩:=hrel
  by_cases hlt:i+1 < n
  ·obtain ⟨x,hx⟩:∃ x,ws[i+1]?=some x:=⟨_,List.getElem?_eq_getElem (by rw [HN.out];exact hlt)⟩
   obtain ⟨b,o,rfl,k1⟩:=HC.out (i+1) x hx
   have HX:Hid ((ws.drop 1)[i]?=some x):=Lib.hid (by rw [List.getElem?_drop,Nat.add_comm];exact hx)
   have hltz:(i:Int)+1 < (n:Int):=by omega
   have HNA:Hid (Calls Tryz.prog 52 #[.string x] wr fun e w'=>e=.returned (.bool (nmB x))∧wr=w'):=Lib.hid (rname_at x wr)
   obtain ⟨B,hB⟩:∃ B,nmB x=B:=⟨_,rfl⟩
   rw [hB] at HNA
   have HB:=Lib.hid hB
   clear hx hB
   go_wp2_with fail
   refine HNA.out.mono ?_
   rintro en w2 ⟨rfl,rfl⟩
   cases B with
   | false =>
     have HRF:Hid (R=false):=Lib.hid (by rw [←HR.out];exact all_no HX.out HB.out)
     go_wp2
     go_ret
     exact ⟨by rw [HRF.out];rfl,rfl⟩
   | true =>
     have HSN:=Lib.hid (HS.out.next HX.out HB.out)
     go_wp2
     go_roundw
     case rel=>exact ⟨i+1,by omega,by first | rfl | go_num | (congr 1;omega),by first | rfl | trivial | simp,HSN⟩
     case measure=>simp [intOf];omega
  ·have hltz:¬ (i:Int)+1 < (n:Int):=by omega
   have HRT:Hid (R=true):=Lib.hid (by rw [←HR.out];exact HS.out.done (by rw [List.length_drop,HN.out];omega))
   go_wp2
   go_ret
   exact ⟨by rw [HRT.out];rfl,rfl⟩
def specA (a:Acct) (k:Int):Bool:=decide (a.cls=k) && !a.cash && !a.both && !neB a.fixed
set_option maxRecDepth 100000 in
set_option maxHeartbeats 4000000 in
theorem special_any (a:Acct) (k:Int) (w:World):Calls Tryz.prog 81 #[aggF a,.int .i64 k] w fun en w'=>en=.returned (.bool (specA a k))∧Below w.heap.size w w':=by
 obtain ⟨code,cls,cash,both,fixed,worn⟩:=a
 have HB:=Lib.hid ((Below.refl w.heap.size w).alloc (Nat.le_refl _) (.cells #[.string code,.int .i64 cls,.bool cash,.bool both,.string fixed,.bool worn] 157))
 obtain ⟨q0,q1,q2,q3,q4,q5⟩:=(BoxA.new w ⟨code,cls,cash,both,fixed,worn⟩ 157).facts
 dsimp only at q0 q1 q2 q3 q4 q5
 obtain ⟨R,hR⟩:∃ R,specA ⟨code,cls,cash,both,fixed,worn⟩ k=R:=⟨_,rfl⟩
 rw [hR]
 have HR:Hid ((decide (cls=k) && !cash && !both && !neB fixed)=R):=Lib.hid hR
 clear hR
 by_cases h1:cls=k
 ·have h1z:(cls==k)=true:=by simpa using h1
  have HR1:Hid ((!cash && !both && !neB fixed)=R):=Lib.hid (by rw [←HR.out,decide_eq_true h1];rfl)
  clear h1
  cases cash with
  | true =>
    have HRF:Hid (R=false):=Lib.hid (by rw [←HR1.out];rfl)
    go_enter Tryz.func81,Tryz.ntmps81
    go_wp2
    go_ret
    exact ⟨by rw [HRF.out];rfl,HB.out⟩
  | false =>
    cases both with
    | true =>
      have HRF:Hid (R=false):=Lib.hid (by rw [←HR1.out];rfl)
      go_enter Tryz.func81,Tryz.ntmps81
      go_wp2
      go_ret
      exact ⟨by rw [HRF.out];rfl,HB.out⟩
    | false =>
      have HR2:Hid ((!neB fixed)=R):=Lib.hid (by rw [←HR1.out];rfl)
      by_cases hf:fixed=emp
      ·subst hf
       have HRT:Hid (R=true):=Lib.hid (by rw [←HR2.out,neB_empty];rfl)
       go_enter Tryz.func81,Tryz.ntmps81
       go_wp2
       go_ret
       exact ⟨by rw [HRT.out];rfl,HB.out⟩
      ·have hne:(!fixed.toList.isEmpty)=true:=(neB_iff fixed).2 hf
       have HRF:Hid (R=false):=Lib.hid (by rw [←HR2.out];unfold neB;rw [hne];rfl)
       have hne2:fixed.toList.isEmpty=false:=by simpa using hne
       go_enter Tryz.func81,Tryz.ntmps81
       go_wp2
       go_ret
       exact ⟨by rw [HRF.out];rfl,HB.out⟩
 ·have h1z:(cls==k)=false:=by simpa using h1
  have HRF:Hid (R=false):=Lib.hid (by rw [←HR.out,decide_eq_false h1];rfl)
  clear h1
  go_enter Tryz.func81,Tryz.ntmps81
  go_wp2
  go_ret
  exact ⟨by rw [HRF.out];rfl,HB.out⟩
end Go.Proofs.YthcpglnmhimepaaGreatDoor.Un
end
section
namespace Go.Proofs.YthcpglnmhimepaaGreatDoor.Un
open Go.RowKit
theorem acct_el {w:World} {b o:Nat} {a:Acct} (h:AcctAt w b o a):ElAt encA w b o a:=fun j v hj=>h.cell j v hj
theorem el_acct {w:World} {b o:Nat} {a:Acct} (h:ElAt encA w b o a):AcctAt w b o a:=acct_of fun j v hj=>h j v hj
theorem acct6 {w:World} {b o:Nat} {a:Acct} (h:ElAt encA w b o a):w.cell? ⟨b,o,none⟩=some (.string a.code)∧w.cell? ⟨b,o+1,none⟩=some (.int .i64 a.cls)∧w.cell? ⟨b,o+2,none⟩=some (.bool a.cash)∧w.cell? ⟨b,o+3,none⟩=some (.bool a.both)∧w.cell? ⟨b,o+4,none⟩=some (.string a.fixed)∧w.cell? ⟨b,o+5,none⟩=some (.bool a.worn):=⟨h 0 _ rfl,h 1 _ rfl,h 2 _ rfl,h 3 _ rfl,h 4 _ rfl,h 5 _ rfl⟩
theorem chart_els {w:World} {v:Value} {L:List Acct}:ChartV w v L ↔ ElsV encA w v L:=by
 constructor
 ·rintro ⟨p,c,e,h1,h2,h3,hc⟩
  exact ⟨p,c,e,h1,h2,h3,fun i x hx=>by
   obtain ⟨b,o,e',hat⟩:=hc i x hx
   exact ⟨b,o,e',acct_el hat⟩⟩
 ·rintro ⟨p,c,e,h1,h2,h3,hc⟩
  exact ⟨p,c,e,h1,h2,h3,fun i x hx=>by
   obtain ⟨b,o,e',hat⟩:=hc i x hx
   exact ⟨b,o,e',el_acct hat⟩⟩
set_option maxRecDepth 100000 in
set_option maxHeartbeats 2000000 in
theorem rcfind_any (v:Value) (L:List Acct) (code:ByteArray) (w:World) (h:ChartV w v L) :
 Calls Tryz.prog 79 #[v,.string code] w fun e w'=>e=.returned (.tuple #[aggF (findV (findL L code)),.bool (findL L code).isSome])∧Below w.heap.size w w':=by
 obtain ⟨a,c,rfl,hcap,hm,_,hc⟩:=h
 obtain ⟨n,hn⟩:∃ n,L.length=n:=⟨_,rfl⟩
 obtain ⟨r,hr⟩:∃ r,findL L code=r:=⟨_,rfl⟩
 rw [hn] at hcap ⊢
 rw [hr]
 have HC:=Lib.hid hc
 have HN:=Lib.hid hn
 have HR:=Lib.hid hr
 unfold maxLen at hm
 clear hc hn hr
 obtain ⟨R,hR⟩:∃ R,findV r=R:=⟨_,rfl⟩
 obtain ⟨S,hS⟩:∃ S,r.isSome=S:=⟨_,rfl⟩
 rw [hR,hS]
 have HRV:=Lib.hid hR
 have HSV:=Lib.hid hS
 clear hR hS
 have HB0:=Lib.hid ((Below.refl w.heap.size w).alloc (Nat.le_refl _) (.cells #[.string ⟨#[]⟩,.int .i64 0,.bool false,.bool false,.string ⟨#[]⟩,.bool false] 157))
 have HC0:=Lib.hid (BoxA.new w zeroA 157)
 go_enter Tryz.func79,Tryz.ntmps79
 go_wp2
 go_loopw [6] (fun s6 wr=>∃ i:Nat,i≤n∧s6=.int .i64 (i:Int)∧Below w.heap.size w wr∧w.heap.size < wr.heap.size∧BoxA wr w.heap.size 157 zeroA∧Hid (∀ (j:Nat) (y:Acct),j < i→L[j]?=some y→y.code≠code)) (fun s6 _=>n - (intOf s6).toNat)
 case atStart=>exact ⟨0,Nat.zero_le _,rfl,HB0.out,by simp,HC0.out,Lib.hid fun j y hj=>absurd hj (Nat.not_lt_zero _)⟩
 case round =>
  obtain ⟨i,hi,rfl,hnx,hsz,hbox,HNO⟩:=hrel
  by_cases hlt:i < n
  ·obtain ⟨x,hx⟩:∃ x,L[i]?=some x:=⟨_,List.getElem?_eq_getElem (by rw [HN.out];exact hlt)⟩
   obtain ⟨b,o,rfl,hat⟩:=HC.out i x hx
   obtain ⟨c0,c1,c2,c3,c4,c5⟩:=hat.keep hnx hat.lt
   have HX:=Lib.hid hx
   have HBX:=Lib.hid hbox
   have HNX:=Lib.hid hnx
   have HSZ:=Lib.hid hsz
   clear hx hbox hat hnx hsz
   cases hxe:(x.code.toList==code.toList) with
   | false =>
     have HXE:=Lib.hid ((Lib.bytes_beq_false_iff x.code code).1 hxe)
     go_wp2
     go_roundw
     case rel=>exact ⟨i+1,by omega,by go_num,HNX.out,HSZ.out,HBX.out,Lib.hid fun j y hj hy=>by
      rcases Nat.lt_or_ge j i with h | h
      ·exact HNO.out j y h hy
      ·obtain rfl:j=i:=by omega
       rw [HX.out] at hy;cases hy;exact HXE.out⟩
     case measure=>simp [intOf];omega
   | true =>
     have HXE:=Lib.hid ((Lib.bytes_beq_iff x.code code).1 hxe)
     have hres:Hid (r=some x):=Lib.hid (by rw [←HR.out];exact find_at HNO.out HX.out HXE.out)
     go_wp2_with (refine wpList_store_acct rfl 157 (.tmp 4) (.tmp 23) rfl w.heap.size zeroA x 157 rfl rfl HBX.out (by kernel_rfl) ?_;intro w2 hb2 hg2)
     have HF:=Lib.hid (HNX.out.grown hg2 HNX.out.size (fun j hj=>by cases hj;exact Nat.le_refl _))
     obtain ⟨d0,d1,d2,d3,d4,d5⟩:=hb2.facts
     clear hb2 hg2
     refine bodyPost_ret (v:=.tuple #[aggF x,.bool true]) (by simp [results,Tryz.results79,go_sem,d0,d1,d2,d3,d4,d5]) rfl ⟨?_,HF.out⟩
     rw [←HRV.out,←HSV.out,hres.out];rfl
  ·have hres:Hid (r=none):=Lib.hid (by
    rw [←HR.out]
    refine find_none fun j y hy=>HNO.out j y ?_ hy
    have:=(List.getElem?_eq_some_iff.1 hy).1
    rw [HN.out] at this;omega)
   have HNX:=Lib.hid hnx
   go_wp2_with (refine wpList_store_acct rfl 157 (.tmp 4) (.tmp 24) rfl w.heap.size zeroA zeroA 157 rfl rfl hbox (by kernel_rfl) ?_;intro w2 hb2 hg2)
   have HF:=Lib.hid (HNX.out.grown hg2 HNX.out.size (fun j hj=>by cases hj;exact Nat.le_refl _))
   obtain ⟨d0,d1,d2,d3,d4,d5⟩:=hb2.facts
   clear hb2 hg2
   refine bodyPost_ret (v:=.tuple #[aggF zeroA,.bool false]) (by simp [results,Tryz.results79,go_sem,d0,d1,d2,d3,d4,d5]) rfl ⟨?_,HF.out⟩
   rw [←HRV.out,←HSV.out,hres.out];rfl
end Go.Proofs.YthcpglnmhimepaaGreatDoor.Un
end
section
namespace Go.Proofs.YthcpglnmhimepaaGreatDoor.Un
open Go.RowKit
section
variable {W0 wx wr w' w2:World} {B g:Nat} {vc vf ve vl v':Value} {M:Mast} {F:List Fl.Flow} {E:List Ent} {L:List Lin}
theorem set_grown (w:World) (g i:Nat) (v:Value):w.grownBy (w.setCell ⟨g,i,none⟩ v) (some g):=⟨rfl,rfl,rfl,by simp [World.setCell],fun k _ hk=>Below.heap_setCell w _ v k (fun e=>hk (by rw [e]))⟩
end
end Go.Proofs.YthcpglnmhimepaaGreatDoor.Un
end
section
namespace Go.Proofs.YthcpglnmhimepaaGreatDoor.Fl
open Go.RowKit
def eqF (a b:Flow):Bool:=decide (a=b)
def eqFs (a b:Flow):Bool:=a.code.toList==b.code.toList && a.kind==b.kind
theorem eqFs_eq (a b:Flow):eqFs a b=eqF a b:=by
 unfold eqFs eqF
 rw [Bool.eq_iff_iff]
 simp only [Bool.and_eq_true,beq_iff_eq,decide_eq_true_eq]
 constructor
 ·rintro ⟨h0,h1⟩
  exact Flow.ext' (toList_inj h0) h1
 ·rintro rfl;exact ⟨rfl,rfl⟩
end Go.Proofs.YthcpglnmhimepaaGreatDoor.Fl
end
